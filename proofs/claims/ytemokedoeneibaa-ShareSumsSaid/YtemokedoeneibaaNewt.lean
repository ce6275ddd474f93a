/- Newton's divided differences: each is the last factor of the polynomial through its points; so Newton's form goes through all. No Go. -/
import Derived.Test.YtemokedoeneibaaPoly
namespace Go.Proofs.Ytemokedoeneibaa
namespace Sp
theorem ev_snoc (x c : Int) : ∀ cs : List Int, ev (cs ++ [c]) x = ev cs x + x ^ cs.length * c
  | [] => by simp [ev]
  | d :: cs => by
    have ih := ev_snoc x c cs
    simp only [List.cons_append, ev, ih, List.length_cons, Int.pow_succ]
    grind
/-- A product with X - a has the same last factor. -/
theorem tim_last (a c : Int) : ∀ cs : List Int, ∃ cs' : List Int, cs'.length = cs.length + 1 ∧ ∀ x, ev (cs' ++ [c]) x = (x - a) * ev (cs ++ [c]) x
  | [] => ⟨[-(a * c)], rfl, fun x => by simp only [List.nil_append, List.cons_append, ev]; grind⟩
  | d :: cs => by
    obtain ⟨cs', hl, he⟩ := tim_last a c cs
    cases cs' with
    | nil => simp at hl
    | cons e es =>
      refine ⟨-(a * d) :: (d + e) :: es, by simp at hl ⊢; omega, fun x => ?_⟩
      have := he x
      simp only [List.cons_append, ev] at this ⊢
      generalize ev (es ++ [c]) x = u at *
      generalize ev (cs ++ [c]) x = v at *
      grind
theorem zeros_last : ∀ xs : List Int, ∃ zs : List Int, zs.length = xs.length ∧ ∀ x, ev (zs ++ [1]) x = ev (zeros xs) x
  | [] => ⟨[], rfl, fun x => rfl⟩
  | a :: xs => by
    obtain ⟨zs, hl, he⟩ := zeros_last xs
    obtain ⟨zs', hl', he'⟩ := tim_last a 1 zs
    exact ⟨zs', by rw [hl', hl, List.length_cons], fun x => by rw [he', he, zeros, tim_ev]⟩
/-- c is the last factor of a polynomial through these points. -/
def Lead (ps : List (Int × Int)) (c : Int) : Prop := ∃ cs : List Int, cs.length + 1 = ps.length ∧ ∀ q ∈ ps, P ∣ ev (cs ++ [c]) q.1 - q.2
theorem lead_one (x y : Int) : Lead [(x, y)] y := ⟨[], rfl, fun q hq => by simp at hq; subst hq; exact ⟨0, by simp [ev]⟩⟩
theorem lead_mod {ps : List (Int × Int)} {c c' : Int} (h : Lead ps c) (he : P ∣ c' - c) : Lead ps c' := by
  obtain ⟨cs, hl, hc⟩ := h
  refine ⟨cs, hl, fun q hq => ?_⟩
  obtain ⟨u, hu⟩ := hc q hq
  obtain ⟨v, hv⟩ := he
  rw [ev_snoc] at hu ⊢
  refine ⟨u + q.1 ^ cs.length * v, ?_⟩
  generalize ev cs q.1 = e at *
  generalize q.1 ^ cs.length = w at *
  grind
/-- From the points without the last one and without the first one to all of them. -/
theorem lead_step {p r : Int × Int} {m : List (Int × Int)} {a b u c : Int} (ha : Lead (p :: m) a) (hb : Lead (m ++ [r]) b) (hu : P ∣ u * (r.1 - p.1) - 1) (hc : P ∣ c - (b - a) * u) : Lead (p :: (m ++ [r])) c := by
  obtain ⟨as, hal, hae⟩ := ha
  obtain ⟨bs, hbl, hbe⟩ := hb
  obtain ⟨as', hal', hae'⟩ := tim_last r.1 a as
  obtain ⟨bs', hbl', hbe'⟩ := tim_last p.1 b bs
  have hlen : as'.length = bs'.length := by simp at hal hbl; omega
  refine lead_mod (c := (b - a) * u) ⟨scale u (sub bs' as'), ?_, fun q hq => ?_⟩ hc
  · rw [scale_len, sub_len]; simp at hal hbl ⊢; omega
  · have hval : ev (scale u (sub bs' as') ++ [(b - a) * u]) q.1 = u * ((q.1 - p.1) * ev (bs ++ [b]) q.1 - (q.1 - r.1) * ev (as ++ [a]) q.1) := by
      rw [← hae', ← hbe', ev_snoc, ev_snoc, ev_snoc, scale_ev, sub_ev, scale_len, sub_len, hlen, Nat.max_self]
      generalize q.1 ^ bs'.length = w
      generalize ev bs' q.1 = e
      generalize ev as' q.1 = f
      grind
    rw [hval]
    obtain ⟨v, hv⟩ := hu
    rcases List.mem_cons.1 hq with rfl | hq
    · obtain ⟨k, hk⟩ := hae q (by simp)
      generalize ev (as ++ [a]) q.1 = e at *
      generalize ev (bs ++ [b]) q.1 = f at *
      refine ⟨v * e + k, ?_⟩
      grind
    · rcases List.mem_append.1 hq with hq | hq
      · obtain ⟨k, hk⟩ := hae q (by simp [hq])
        obtain ⟨j, hj⟩ := hbe q (by simp [hq])
        generalize ev (as ++ [a]) q.1 = e at *
        generalize ev (bs ++ [b]) q.1 = f at *
        refine ⟨u * (q.1 - p.1) * j - u * (q.1 - r.1) * k + v * q.2, ?_⟩
        grind
      · simp at hq
        subst hq
        obtain ⟨j, hj⟩ := hbe q (by simp)
        generalize ev (as ++ [a]) q.1 = e at *
        generalize ev (bs ++ [b]) q.1 = f at *
        refine ⟨v * f + j, ?_⟩
        grind
/-- Newton's form. -/
def nv : List (Int × Int) → Int → Int
  | [], _ => 0
  | (d, a) :: l, x => d + (x - a) * nv l x
theorem nv_snoc (x d a : Int) : ∀ l : List (Int × Int), nv (l ++ [(d, a)]) x = nv l x + d * ev (zeros (l.map (·.2))) x
  | [] => by simp [nv, zeros, ev]
  | (e, b) :: l => by
    have ih := nv_snoc x d a l
    simp only [List.cons_append, nv, ih, List.map_cons, zeros, tim_ev]
    grind
theorem Diff.left : ∀ {xs ys : List Int}, Diff (xs ++ ys) → Diff xs
  | [], _, _ => trivial
  | _ :: _, _, h => ⟨fun y hy => h.1 y (by simp [hy]), Diff.left h.2⟩
theorem Diff.last : ∀ {xs : List Int} {y : Int}, Diff (xs ++ [y]) → ∀ x ∈ xs, ¬ P ∣ y - x
  | _ :: _, y, h, x, hx => by
    rcases List.mem_cons.1 hx with rfl | hx
    · exact h.1 y (by simp)
    · exact Diff.last h.2 x hx
/-- Newton's form with the divided differences goes through all points: it is a polynomial with as many factors. -/
theorem newton : ∀ (n : Nat) (ps : List (Int × Int)) (ds : List Int), ps.length = n → ds.length = n → Diff (ps.map (·.1)) → (∀ i (_ : i < n) d, ds[i]? = some d → Lead (ps.take (i + 1)) d) →
    ∃ cs : List Int, cs.length = n ∧ (∀ x, P ∣ nv (ds.zip (ps.map (·.1))) x - ev cs x) ∧ ∀ q ∈ ps, P ∣ ev cs q.1 - q.2
  | 0, ps, ds, hp, hd, _, _ => by
    obtain rfl := List.eq_nil_of_length_eq_zero hp
    obtain rfl := List.eq_nil_of_length_eq_zero hd
    exact ⟨[], rfl, fun x => ⟨0, by simp [nv, ev]⟩, fun q h => by cases h⟩
  | n + 1, ps, ds, hp, hd, hdiff, hlead => by
    obtain ⟨ps', ⟨a, y⟩, rfl⟩ : ∃ l z, ps = l ++ [z] := ⟨ps.dropLast, ps.getLast (by intro e; subst e; simp at hp), (List.dropLast_concat_getLast _).symm⟩
    obtain ⟨ds', d, rfl⟩ : ∃ l z, ds = l ++ [z] := ⟨ds.dropLast, ds.getLast (by intro e; subst e; simp at hd), (List.dropLast_concat_getLast _).symm⟩
    simp only [List.length_append, List.length_singleton] at hp hd
    have hp' : ps'.length = n := by omega
    have hd' : ds'.length = n := by omega
    rw [List.map_append] at hdiff
    obtain ⟨cs, hl, hv, hc⟩ := newton n ps' ds' hp' hd' hdiff.left (fun i hi e he => by
      have := hlead i (by omega) e (by rw [List.getElem?_append_left (by omega)]; exact he)
      rwa [List.take_append_of_le_length (by omega)] at this)
    obtain ⟨qs, hql, hqe⟩ := hlead n (by omega) d (by rw [List.getElem?_append_right (by omega), hd', Nat.sub_self]; rfl)
    rw [List.take_of_length_le (by simp; omega)] at hql hqe
    obtain ⟨zs, hzl, hze⟩ := zeros_last (ps'.map (·.1))
    rw [List.length_map] at hzl
    have hqlen : qs.length = n := by simp at hql; omega
    -- the polynomial through all points, without its last factor, is the one before
    have hsame : ∀ x, P ∣ ev (sub qs (scale d zs)) x - ev cs x := agree (xs := ps'.map (·.1)) hdiff.left (by rw [sub_len, scale_len, List.length_map]; omega) (by rw [List.length_map]; omega) fun x hx => by
      obtain ⟨q, hq, rfl⟩ := List.mem_map.1 hx
      have h1 : ev (sub qs (scale d zs)) q.1 = ev (qs ++ [d]) q.1 := by
        have h2 := hze q.1
        rw [zeros_at (List.mem_map.2 ⟨q, hq, rfl⟩), ev_snoc] at h2
        rw [sub_ev, scale_ev, ev_snoc, hqlen]
        rw [hzl, hp'] at h2
        generalize ev zs q.1 = e at *
        generalize q.1 ^ n = w at *
        grind
      rw [h1]
      have h2 := hqe q (by simp [hq])
      have h3 := hc q hq
      have := Int.dvd_sub h2 h3
      have e : ev (qs ++ [d]) q.1 - q.2 - (ev cs q.1 - q.2) = ev (qs ++ [d]) q.1 - ev cs q.1 := by omega
      rwa [e] at this
    refine ⟨qs ++ [d], by simp [hqlen], fun x => ?_, hqe⟩
    have hzip : (ds' ++ [d]).zip ((ps' ++ [(a, y)]).map (·.1)) = ds'.zip (ps'.map (·.1)) ++ [(d, a)] := by
      rw [List.map_append, List.zip_append (by rw [List.length_map]; omega)]; rfl
    have hsnd : (ds'.zip (ps'.map (·.1))).map (·.2) = ps'.map (·.1) := List.map_snd_zip (by rw [List.length_map]; omega)
    rw [hzip, nv_snoc, hsnd, ← hze, ev_snoc, ev_snoc, hzl, hp', hqlen]
    obtain ⟨u, hu⟩ := hv x
    obtain ⟨v, hv'⟩ := hsame x
    rw [sub_ev, scale_ev] at hv'
    refine ⟨u - v, ?_⟩
    generalize ev zs x = e at *
    generalize x ^ n = w at *
    generalize ev qs x = f at *
    generalize ev cs x = g at *
    generalize nv (ds'.zip (ps'.map (·.1))) x = h at *
    grind
end Sp
end Go.Proofs.Ytemokedoeneibaa

/- Slices of texts, of bytes that are read; append; texts as lists of bytes. No layer's own. -/
import Derived.Test.YtbjligjmckilcaaDoorNums
import Derived.Test.YtbjligjmckilcaaDoorWd
namespace Go.Proofs.YtbjligjmckilcaaDoor
open Go.RowKit Go.Maps Go.ChangeMaps Go.MapKept
open Wd
attribute [local go_sem ↓] Go.wp_at_zero Go.wp_at_succ
def bs (l : S) : ByteArray := ⟨l.toArray⟩
theorem bs_size (l : S) : (bs l).size = l.length := by rw [Lib.size_eq]; rfl
theorem bs_list (l : S) : (bs l).data.toList = l := rfl
theorem bs_toList (l : S) : (bs l).toList = l := Lib.toList_data _
theorem bs_of (s : ByteArray) : bs s.data.toList = s := Lib.mk_data s
theorem bs_extract (l : S) (a b : Nat) : (bs l).extract a b = bs ((l.drop a).take (b - a)) := Lib.extract_eq _ a b
theorem bs_append (a b : S) : bs a ++ bs b = bs (a ++ b) := ByteArray.mk_append_mk a b
theorem bs_inj {a b : S} (h : bs a = bs b) : a = b := by have := congrArg ByteArray.toList h; rwa [bs_toList, bs_toList] at this
theorem bs_get {l : S} {k : Nat} {c : UInt8} (h : l[k]? = some c) : ∃ h : k < (bs l).size, (bs l)[k]'h = c := by
  obtain ⟨h1, h2⟩ := List.getElem?_eq_some_iff.1 h
  exact ⟨by rw [bs_size]; exact h1, by rw [← h2]; rfl⟩
theorem ret_string {a b : ByteArray} (h : a = b) : Ending.returned (.string a) = .returned (.string b) := by rw [h]
def txVs (l : List S) : List Value := l.map fun t => .string (bs t)
theorem txVs_length (l : List S) : (txVs l).length = l.length := by simp [txVs]
theorem txVs_one (l : List S) : ∀ u ∈ txVs l, u.oneCell' = true := by
  intro u hu
  obtain ⟨z, _, rfl⟩ := List.mem_map.1 hu
  rfl
def byVs (l : S) : List Value := l.map fun c => .int .u8 (c.toNat : Int)
theorem byVs_length (l : S) : (byVs l).length = l.length := by simp [byVs]
theorem byVs_one (l : S) : ∀ u ∈ byVs l, u.oneCell' = true := by
  intro u hu
  obtain ⟨z, _, rfl⟩ := List.mem_map.1 hu
  rfl
/-- A slice of numbers that is read. -/
def TxAt (w : World) (v : Value) (l : List S) : Prop := ∃ a cap, v = .slice a l.length cap ∧ (l.length ≤ cap ∧ (a = none → cap = 0)) ∧ ∀ (k : Nat) (z : S), l[k]? = some z → ∃ b off, a = some ⟨b, off, none⟩ ∧ w.cell? ⟨b, off + k, none⟩ = some (.string (bs z))
section
variable {w w' : World} {v : Value} {l : List S}
theorem TxAt.keep (h : TxAt w v l) (hb : Below w.heap.size w w') : TxAt w' v l := by
  obtain ⟨a, cap, hv, hl, hc⟩ := h
  refine ⟨a, cap, hv, hl, fun k z hk => ?_⟩
  obtain ⟨b, off, h1, c0⟩ := hc k z hk
  exact ⟨b, off, h1, below_cell c0 hb⟩
theorem TxAt.nil (w : World) : TxAt w (.slice none 0 0) [] := ⟨none, 0, rfl, ⟨Nat.le_refl _, fun _ => rfl⟩, fun k u hk => by simp at hk⟩
theorem TxAt.of_own {base : Nat} {e : TypeId} {n : Nat} (h : w.ownsRow base e 1 v n (txVs l)) : TxAt w v l := by
  have hn : n = l.length := by have := h.1; rw [txVs_length] at this; omega
  subst hn
  rcases h.2 with ⟨rfl, h0⟩ | ⟨g, cap, cur, rfl, _, _, hcap, _⟩
  · have : l = [] := List.eq_nil_of_length_eq_zero h0
    subst this
    exact TxAt.nil w
  · refine ⟨_, cap, rfl, ⟨hcap, fun e => by cases e⟩, fun k p hk => ⟨g, 0, rfl, ?_⟩⟩
    have h0 := h.cells rfl k (.string (bs p)) (by simp [txVs, hk])
    rwa [Lib.add_plain] at h0
theorem TxAt.slice (h : TxAt w v l) : ∃ a c, v = .slice a l.length c := by obtain ⟨a, c, hv, _⟩ := h; exact ⟨a, c, hv⟩
theorem TxAt.form (h : TxAt w v l) (h0 : 0 < l.length) : ∃ b off cap, v = .slice (some ⟨b, off, none⟩) l.length cap ∧ l.length ≤ cap ∧ ∀ (k : Nat) (z : S), l[k]? = some z → w.cell? ⟨b, off + k, none⟩ = some (.string (bs z)) := by
  obtain ⟨a, cap, hv, hl, hc⟩ := h
  obtain ⟨b, off, rfl, _⟩ := hc 0 _ (List.getElem?_eq_getElem h0)
  refine ⟨b, off, cap, hv, hl.1, fun k p hk => ?_⟩
  obtain ⟨b', off', h1, h2⟩ := hc k p hk
  cases h1
  exact h2
theorem TxAt.at_ {b off n cap : Nat} (h : TxAt w (.slice (some ⟨b, off, none⟩) n cap) l) {k : Nat} {z : S} (hk : l[k]? = some z) : w.cell? ⟨b, off + k, none⟩ = some (.string (bs z)) := by
  obtain ⟨a, cap', hv, _, hc⟩ := h
  cases hv
  obtain ⟨b', off', h1, h2⟩ := hc k z hk
  cases h1
  exact h2
end
theorem run_pushT (w : World) (v u : Value) (ks ps : List S) (hown : w.ownsRow 0 9 1 v ks.length (txVs ks)) (hu : TxAt w u ps) (hn : ks.length + ps.length ≤ 100000) :
    ∃ a c w', (Builtin.append_ #[22, 22] 22 #[v, u]).run Tryd.prog w = .ok (.slice a (ks.length + ps.length) c) w' ∧ w'.ownsRow 0 9 1 (.slice a (ks.length + ps.length) c) (ks.length + ps.length) (txVs (ks ++ ps)) ∧ w.grownBy w' v.ownBlock ∧
      ((Value.slice a (ks.length + ps.length) c).ownBlock = v.ownBlock ∨ (Value.slice a (ks.length + ps.length) c).ownBlock = some w.heap.size) := by
  obtain ⟨i0, hi, hz0, hz1, hz2⟩ := info_parts string_info
  have hint : txVs (ks ++ ps) = txVs ks ++ txVs ps := by simp [txVs]
  obtain ⟨a, cap, rfl, ⟨_, hn0⟩, hc⟩ := hu
  cases a with
  | none =>
    obtain rfl := hn0 rfl
    have h0 : ps = [] := by
      cases ps with
      | nil => rfl
      | cons z l => obtain ⟨_, _, h1, _⟩ := hc 0 z rfl; cases h1
    subst h0
    have hr := run_append_owned_none (P := Tryd.prog) (w := w) 0 22 22 9 i0 1 Tryd.underlying22 hi v ks.length _ hown
    obtain ⟨a', c', hv⟩ := own_form hown
    subst hv
    rw [List.append_nil]
    exact ⟨a', c', w, hr, hown, ⟨rfl, rfl, rfl, Nat.le_refl _, fun _ _ _ => rfl⟩, .inl rfl⟩
  | some x =>
    have hcell : ∀ j u, (txVs ps)[j]? = some u → w.cell? (x.add j) = some u := by
      intro j u hj
      unfold txVs at hj
      rw [List.getElem?_map] at hj
      cases hz : ps[j]? with
      | none => rw [hz] at hj; cases hj
      | some z =>
        rw [hz] at hj; cases hj
        obtain ⟨b, off, h1, h2⟩ := hc j z hz
        cases h1
        rw [Lib.add_plain]; exact h2
    obtain ⟨v', w', r1, r2, r3, _, r5⟩ := run_append_own_at (P := Tryd.prog) w 0 22 22 9 i0 (.string ⟨#[]⟩) 1 16 Tryd.underlying22 hi hz0 hz1 hz2 rfl (by decide) v ks.length _ hown x ps.length cap (txVs ps) (by rw [txVs_length, Nat.mul_one]) hcell (txVs_one _) (by unfold maxLen; omega) (by omega) (Nat.zero_le _)
    rw [← hint] at r2
    obtain ⟨a', c', hv⟩ := own_form r2
    subst hv
    exact ⟨a', c', w', r1, r2, r3, r5⟩
/-- One number in a new slice. -/
theorem own_txt (w : World) (z : S) : (w.alloc (.cells #[.string (bs z)] 9)).ownsRow 0 9 1 (.slice (some ⟨w.heap.size, 0, none⟩) 1 1) 1 (txVs [z]) :=
  World.ownsRow_lit w #[.string (bs z)] 1 (Nat.zero_le _) (by decide) rfl
theorem txts_one (w : World) (z : S) : TxAt (w.alloc (.cells #[.string (bs z)] 9)) (.slice (some ⟨w.heap.size, 0, none⟩) 1 1) [z] := TxAt.of_own (own_txt w z)
/-- Numbers in a new slice. -/
theorem txts_lit (w : World) (l : List S) (hl : l.length ≤ 100) : TxAt (w.alloc (.cells (txVs l).toArray 9)) (.slice (some ⟨w.heap.size, 0, none⟩) l.length l.length) l :=
  TxAt.of_own (World.ownsRow_lit (e := 9) (size := 1) (base := 0) w (txVs l).toArray l.length (Nat.zero_le _) (by unfold maxLen; omega) (by simp [txVs]))
section
variable {w0 w : World} {os : List Ob} {i : Nat} {v : Value} {ks : List S}
theorem OMem.pushT (h : OMem w0 w os) (hi : os[i]? = some (.row 9 1 v ks.length (txVs ks))) (z : S) (hn : ks.length ≤ 1000) :
    ∃ a c w', (Builtin.append_ #[22, 22] 22 #[v, .slice (some ⟨w.heap.size, 0, none⟩) 1 1]).run Tryd.prog (w.alloc (.cells #[.string (bs z)] 9)) = .ok (.slice a (ks.length + 1) c) w' ∧
      OMem w0 w' (os.set i (.row 9 1 (.slice a (ks.length + 1) c) (ks.length + 1) (txVs (ks ++ [z])))) := by
  have hb2 := (Below.refl w.heap.size w).alloc (Nat.le_refl _) (.cells #[.string (bs z)] 9)
  have h2 := h.fresh hb2
  obtain ⟨a, c, w', r1, r2, r3, r4⟩ := run_pushT _ v _ ks [z] (h2.rowAt hi) (txts_one w z) (by simp; omega)
  have e : ks.length + [z].length = ks.length + 1 := by simp
  rw [e] at r1 r2 r4
  exact ⟨a, c, w', r1, h2.rowGrow hi r3 r2 r4⟩
end
/-- A copy of numbers in a new slice: append onto an empty literal. -/
theorem copyT_run {w : World} {u : Value} {l : List S} (hu : TxAt w u l) (hn : l.length ≤ 1000) :
    ∃ a c w', (Builtin.append_ #[22, 22] 22 #[.slice (some ⟨w.heap.size, 0, none⟩) 0 0, u]).run Tryd.prog (w.alloc (.cells #[] 9)) = .ok (.slice a l.length c) w' ∧
      w'.ownsRow 0 9 1 (.slice a l.length c) l.length (txVs l) ∧ Below w.heap.size w w' ∧ ∀ x, (Value.slice a l.length c).ownBlock = some x → w.heap.size ≤ x := by
  have hb := (Below.refl w.heap.size w).alloc (Nat.le_refl _) (.cells #[] 9)
  obtain ⟨a, c, w', h1, h2, h3, h4⟩ := run_pushT _ _ u [] l (World.ownsRow_lit w #[] 0 (e := 9) (size := 1) (base := 0) (Nat.zero_le _) (by decide) rfl) (hu.keep hb) (by simp; omega)
  have e : ([] : List S).length + l.length = l.length := by simp
  rw [e, List.nil_append] at h2
  rw [e] at h1 h4
  refine ⟨a, c, w', h1, h2, below_grown hb h3 fun x hx => Nat.le_of_eq (by simpa [Value.ownBlock] using hx), fun x hx => ?_⟩
  rcases h4 with q | q
  · have := q.symm.trans hx; exact Nat.le_of_eq (by simpa [Value.ownBlock] using this)
  · have := q.symm.trans hx; simp at this; omega
theorem addT_run {w0 w : World} {v u : Value} {ks ps : List S} (hb : Below w0.heap.size w0 w) (ho : w.ownsRow 0 9 1 v ks.length (txVs ks)) (hv : ∀ x, v.ownBlock = some x → w0.heap.size ≤ x) (hu : TxAt w u ps) (hn : ks.length + ps.length ≤ 1000) :
    ∃ a c w', (Builtin.append_ #[22, 22] 22 #[v, u]).run Tryd.prog w = .ok (.slice a (ks.length + ps.length) c) w' ∧ TxAt w' (.slice a (ks.length + ps.length) c) (ks ++ ps) ∧ Below w0.heap.size w0 w' := by
  obtain ⟨a, c, w', h1, h2, h3, h4⟩ := run_pushT _ v u ks ps ho hu (by omega)
  exact ⟨a, c, w', h1, TxAt.of_own h2, below_grown hb h3 hv⟩
/-- A slice of numbers that is read. -/
def ByAt (w : World) (v : Value) (l : S) : Prop := ∃ a cap, v = .slice a l.length cap ∧ (l.length ≤ cap ∧ (a = none → cap = 0)) ∧ ∀ (k : Nat) (z : UInt8), l[k]? = some z → ∃ b off, a = some ⟨b, off, none⟩ ∧ w.cell? ⟨b, off + k, none⟩ = some (.int .u8 (z.toNat : Int))
section
variable {w w' : World} {v : Value} {l : S}
theorem ByAt.keep (h : ByAt w v l) (hb : Below w.heap.size w w') : ByAt w' v l := by
  obtain ⟨a, cap, hv, hl, hc⟩ := h
  refine ⟨a, cap, hv, hl, fun k z hk => ?_⟩
  obtain ⟨b, off, h1, c0⟩ := hc k z hk
  exact ⟨b, off, h1, below_cell c0 hb⟩
theorem ByAt.nil (w : World) : ByAt w (.slice none 0 0) [] := ⟨none, 0, rfl, ⟨Nat.le_refl _, fun _ => rfl⟩, fun k u hk => by simp at hk⟩
theorem ByAt.of_own {base : Nat} {e : TypeId} {n : Nat} (h : w.ownsRow base e 1 v n (byVs l)) : ByAt w v l := by
  have hn : n = l.length := by have := h.1; rw [byVs_length] at this; omega
  subst hn
  rcases h.2 with ⟨rfl, h0⟩ | ⟨g, cap, cur, rfl, _, _, hcap, _⟩
  · have : l = [] := List.eq_nil_of_length_eq_zero h0
    subst this
    exact ByAt.nil w
  · refine ⟨_, cap, rfl, ⟨hcap, fun e => by cases e⟩, fun k p hk => ⟨g, 0, rfl, ?_⟩⟩
    have h0 := h.cells rfl k (.int .u8 (p.toNat : Int)) (by simp [byVs, hk])
    rwa [Lib.add_plain] at h0
theorem ByAt.slice (h : ByAt w v l) : ∃ a c, v = .slice a l.length c := by obtain ⟨a, c, hv, _⟩ := h; exact ⟨a, c, hv⟩
theorem ByAt.form (h : ByAt w v l) (h0 : 0 < l.length) : ∃ b off cap, v = .slice (some ⟨b, off, none⟩) l.length cap ∧ l.length ≤ cap ∧ ∀ (k : Nat) (z : UInt8), l[k]? = some z → w.cell? ⟨b, off + k, none⟩ = some (.int .u8 (z.toNat : Int)) := by
  obtain ⟨a, cap, hv, hl, hc⟩ := h
  obtain ⟨b, off, rfl, _⟩ := hc 0 _ (List.getElem?_eq_getElem h0)
  refine ⟨b, off, cap, hv, hl.1, fun k p hk => ?_⟩
  obtain ⟨b', off', h1, h2⟩ := hc k p hk
  cases h1
  exact h2
theorem ByAt.at_ {b off n cap : Nat} (h : ByAt w (.slice (some ⟨b, off, none⟩) n cap) l) {k : Nat} {z : UInt8} (hk : l[k]? = some z) : w.cell? ⟨b, off + k, none⟩ = some (.int .u8 (z.toNat : Int)) := by
  obtain ⟨a, cap', hv, _, hc⟩ := h
  cases hv
  obtain ⟨b', off', h1, h2⟩ := hc k z hk
  cases h1
  exact h2
end
theorem run_pushB (w : World) (v u : Value) (ks ps : S) (hown : w.ownsRow 0 5 1 v ks.length (byVs ks)) (hu : ByAt w u ps) (hn : ks.length + ps.length ≤ 100000) :
    ∃ a c w', (Builtin.append_ #[41, 41] 41 #[v, u]).run Tryd.prog w = .ok (.slice a (ks.length + ps.length) c) w' ∧ w'.ownsRow 0 5 1 (.slice a (ks.length + ps.length) c) (ks.length + ps.length) (byVs (ks ++ ps)) ∧ w.grownBy w' v.ownBlock ∧
      ((Value.slice a (ks.length + ps.length) c).ownBlock = v.ownBlock ∨ (Value.slice a (ks.length + ps.length) c).ownBlock = some w.heap.size) := by
  obtain ⟨i0, hi, hz0, hz1, hz2⟩ := info_parts byte_info
  have hint : byVs (ks ++ ps) = byVs ks ++ byVs ps := by simp [byVs]
  obtain ⟨a, cap, rfl, ⟨_, hn0⟩, hc⟩ := hu
  cases a with
  | none =>
    obtain rfl := hn0 rfl
    have h0 : ps = [] := by
      cases ps with
      | nil => rfl
      | cons z l => obtain ⟨_, _, h1, _⟩ := hc 0 z rfl; cases h1
    subst h0
    have hr := run_append_owned_none (P := Tryd.prog) (w := w) 0 41 41 5 i0 1 Tryd.underlying41 hi v ks.length _ hown
    obtain ⟨a', c', hv⟩ := own_form hown
    subst hv
    rw [List.append_nil]
    exact ⟨a', c', w, hr, hown, ⟨rfl, rfl, rfl, Nat.le_refl _, fun _ _ _ => rfl⟩, .inl rfl⟩
  | some x =>
    have hcell : ∀ j u, (byVs ps)[j]? = some u → w.cell? (x.add j) = some u := by
      intro j u hj
      unfold byVs at hj
      rw [List.getElem?_map] at hj
      cases hz : ps[j]? with
      | none => rw [hz] at hj; cases hj
      | some z =>
        rw [hz] at hj; cases hj
        obtain ⟨b, off, h1, h2⟩ := hc j z hz
        cases h1
        rw [Lib.add_plain]; exact h2
    obtain ⟨v', w', r1, r2, r3, _, r5⟩ := run_append_own_at (P := Tryd.prog) w 0 41 41 5 i0 (.int .u8 0) 1 1 Tryd.underlying41 hi hz0 hz1 hz2 rfl (by decide) v ks.length _ hown x ps.length cap (byVs ps) (by rw [byVs_length, Nat.mul_one]) hcell (byVs_one _) (by unfold maxLen; omega) (by omega) (Nat.zero_le _)
    rw [← hint] at r2
    obtain ⟨a', c', hv⟩ := own_form r2
    subst hv
    exact ⟨a', c', w', r1, r2, r3, r5⟩
/-- One number in a new slice. -/
theorem own_byt (w : World) (z : UInt8) : (w.alloc (.cells #[.int .u8 (z.toNat : Int)] 5)).ownsRow 0 5 1 (.slice (some ⟨w.heap.size, 0, none⟩) 1 1) 1 (byVs [z]) :=
  World.ownsRow_lit w #[.int .u8 (z.toNat : Int)] 1 (Nat.zero_le _) (by decide) rfl
theorem byts_one (w : World) (z : UInt8) : ByAt (w.alloc (.cells #[.int .u8 (z.toNat : Int)] 5)) (.slice (some ⟨w.heap.size, 0, none⟩) 1 1) [z] := ByAt.of_own (own_byt w z)
/-- Numbers in a new slice. -/
theorem byts_lit (w : World) (l : S) (hl : l.length ≤ 100) : ByAt (w.alloc (.cells (byVs l).toArray 5)) (.slice (some ⟨w.heap.size, 0, none⟩) l.length l.length) l :=
  ByAt.of_own (World.ownsRow_lit (e := 5) (size := 1) (base := 0) w (byVs l).toArray l.length (Nat.zero_le _) (by unfold maxLen; omega) (by simp [byVs]))
section
variable {w0 w : World} {os : List Ob} {i : Nat} {v : Value} {ks : S}
theorem OMem.pushB (h : OMem w0 w os) (hi : os[i]? = some (.row 5 1 v ks.length (byVs ks))) (z : UInt8) (hn : ks.length ≤ 1000) :
    ∃ a c w', (Builtin.append_ #[41, 41] 41 #[v, .slice (some ⟨w.heap.size, 0, none⟩) 1 1]).run Tryd.prog (w.alloc (.cells #[.int .u8 (z.toNat : Int)] 5)) = .ok (.slice a (ks.length + 1) c) w' ∧
      OMem w0 w' (os.set i (.row 5 1 (.slice a (ks.length + 1) c) (ks.length + 1) (byVs (ks ++ [z])))) := by
  have hb2 := (Below.refl w.heap.size w).alloc (Nat.le_refl _) (.cells #[.int .u8 (z.toNat : Int)] 5)
  have h2 := h.fresh hb2
  obtain ⟨a, c, w', r1, r2, r3, r4⟩ := run_pushB _ v _ ks [z] (h2.rowAt hi) (byts_one w z) (by simp; omega)
  have e : ks.length + [z].length = ks.length + 1 := by simp
  rw [e] at r1 r2 r4
  exact ⟨a, c, w', r1, h2.rowGrow hi r3 r2 r4⟩
end
/-- A copy of numbers in a new slice: append onto an empty literal. -/
theorem copyB_run {w : World} {u : Value} {l : S} (hu : ByAt w u l) (hn : l.length ≤ 1000) :
    ∃ a c w', (Builtin.append_ #[41, 41] 41 #[.slice (some ⟨w.heap.size, 0, none⟩) 0 0, u]).run Tryd.prog (w.alloc (.cells #[] 5)) = .ok (.slice a l.length c) w' ∧
      w'.ownsRow 0 5 1 (.slice a l.length c) l.length (byVs l) ∧ Below w.heap.size w w' ∧ ∀ x, (Value.slice a l.length c).ownBlock = some x → w.heap.size ≤ x := by
  have hb := (Below.refl w.heap.size w).alloc (Nat.le_refl _) (.cells #[] 5)
  obtain ⟨a, c, w', h1, h2, h3, h4⟩ := run_pushB _ _ u [] l (World.ownsRow_lit w #[] 0 (e := 5) (size := 1) (base := 0) (Nat.zero_le _) (by decide) rfl) (hu.keep hb) (by simp; omega)
  have e : ([] : S).length + l.length = l.length := by simp
  rw [e, List.nil_append] at h2
  rw [e] at h1 h4
  refine ⟨a, c, w', h1, h2, below_grown hb h3 fun x hx => Nat.le_of_eq (by simpa [Value.ownBlock] using hx), fun x hx => ?_⟩
  rcases h4 with q | q
  · have := q.symm.trans hx; exact Nat.le_of_eq (by simpa [Value.ownBlock] using this)
  · have := q.symm.trans hx; simp at this; omega
theorem addB_run {w0 w : World} {v u : Value} {ks ps : S} (hb : Below w0.heap.size w0 w) (ho : w.ownsRow 0 5 1 v ks.length (byVs ks)) (hv : ∀ x, v.ownBlock = some x → w0.heap.size ≤ x) (hu : ByAt w u ps) (hn : ks.length + ps.length ≤ 1000) :
    ∃ a c w', (Builtin.append_ #[41, 41] 41 #[v, u]).run Tryd.prog w = .ok (.slice a (ks.length + ps.length) c) w' ∧ ByAt w' (.slice a (ks.length + ps.length) c) (ks ++ ps) ∧ Below w0.heap.size w0 w' := by
  obtain ⟨a, c, w', h1, h2, h3, h4⟩ := run_pushB _ v u ks ps ho hu (by omega)
  exact ⟨a, c, w', h1, ByAt.of_own h2, below_grown hb h3 hv⟩
end Go.Proofs.YtbjligjmckilcaaDoor

/- Restrict, Copy; the contracts of package graph as the statements' walks ask for them. -/
import Derived.Test.YtihnnffhpgbgjaaPpart
namespace Go.Proofs.Ytihnnffhpgbgjaa
open Go.RowKit Go.Maps Go.ChangeMaps Go.MapKept Go.Shelf
open Gp
attribute [local go_sem ↓] Go.wp_at_zero Go.wp_at_succ

theorem seqK_mono {α : Type} {F : Fence} {n : Nat} {P : Program} {g : Nat} {lb : Array Value} {encs : α → Array Value} {Kp : World → World → Prop} {S S' Sp : List α → Prop} {N : Nat} {w : World} (h : SeqStopsK F n P g lb encs Kp S Sp N w) (hs : ∀ xs, S xs → S' xs) :
    SeqStopsK F n P g lb encs Kp S' Sp N w := fun l J Jx W a b c d e => (h l J Jx W a b c d e).mono fun _ _ ⟨h1, h2⟩ => ⟨h1, h2.imp_left fun ⟨xs, q, r⟩ => ⟨xs, hs xs q, r⟩⟩
theorem keysB_any (q : Option Nat) (w : World) : Calls Try.prog 47 #[.map q] w fun e w' => e = .returned (.func (.func 60) #[] #[.pointer (some ⟨w.heap.size, 0, none⟩)]) ∧ w' = w.alloc (.cells #[.map q] 60) :=
  (callsIn_wide (n := 5)).1 (AnyZI.keys_in Try.lkeysB Fence.wide 5 trivial rfl q w)
theorem keysN_any (q : Option Nat) (w : World) : Calls Try.prog 57 #[.map q] w fun e w' => e = .returned (.func (.func 65) #[] #[.pointer (some ⟨w.heap.size, 0, none⟩)]) ∧ w' = w.alloc (.cells #[.map q] 52) :=
  (callsIn_wide (n := 5)).1 (AnyZI.keys_in Try.lkeysN Fence.wide 5 trivial rfl q w)
/-- A graph in new blocks alone. -/
def NewG (w w' : World) (G : List Nd) (e : Ending) : Prop := ∃ b' mb' pv' S', e = .returned (.pointer (some ⟨b', 0, none⟩)) ∧ GIn w' b' mb' G pv' S' ∧ Below w.heap.size w w' ∧ (w.heap.size ≤ b' ∧ w.heap.size ≤ mb') ∧ ∀ x, S' x → w.heap.size ≤ x
section
variable {w : World} {b mb : Nat} {G : List Nd} {pv : Int → Value} {S : Nat → Prop}
theorem NewG.back {w2 w' : World} {e : Ending} (h : NewG w2 w' G e) (hb : Below w.heap.size w w2) : NewG w w' G e := by
  obtain ⟨b', mb', pv', S', h1, h2, h3, h4, h5⟩ := h
  have := hb.size
  exact ⟨b', mb', pv', S', h1, h2, hb.trans (h3.mono this), ⟨by omega, by omega⟩, fun x hx => Nat.le_trans this (h5 x hx)⟩
set_option maxHeartbeats 2000000 in
set_option maxRecDepth 100000 in
theorem restrict_in (h : GIn w b mb G pv S) (hG : G.length ≤ 100) {v : Value} {xs : List Int} (hv : NumsAt w v xs) (hx : xs.length ≤ 1000) :
    Calls Try.prog 24 #[.pointer (some ⟨b, 0, none⟩), v] w fun e w' => NewG w w' (restrict G xs) e := by
  have HG := Lib.hid h
  have HR := Lib.hid (reach_in h hv hx hG 0)
  clear h hv
  go_enter Try.func24, Try.ntmps24
  go_wp2_with (go_at_call 42; refine (HR.out).mono ?_; rintro e w2 ⟨mm, M, rfl, n2, m2, hM, b2⟩; refine Hid.out ?_)
  refine Lib.hid ?_
  have HK := Lib.hid (keysB_any (some mm) w2)
  have hb3 := (Below.refl w2.heap.size w2).alloc (Nat.le_refl _) (.cells #[.map (some mm)] 60)
  have B3 := Lib.hid (b2.trans (hb3.mono b2.size))
  have ML := met_len hM
  have HP := Lib.hid (part_in (HG.out.keep B3.out) hG (mk := mm) (gf := 60) (lb := #[.pointer (some ⟨w2.heap.size, 0, none⟩)]) (by have := m2.lt; simp; omega) (enters_of Try.func60 (by kernel_rfl) rfl)
    (restrict_ok HG.out.ok xs) (N := M.length) (by omega)
    (seqK_mono (keys_set (A := (· ∈ ids G)) (m2.block (hb3.block _ m2.lt)) (fun x hx => (mem_down.1 ((hM.2 x).1 ((setM_some M x).1 hx)).2).1) w2.heap.size (by simp) (cells_new w2 _ _ 0 _ rfl) 7 (by omega)) fun ss hss => ⟨hss.1, fun x => by
      rw [hss.2 x, setM_some, hM.2 x, ids_restrict]
      exact ⟨fun q => q.2, fun q => ⟨(HG.out.ok.range (mem_down.1 q).1).1, q⟩⟩⟩)
    (fun x hx => by rw [ids_restrict] at hx; exact ⟨par_restrict HG.out.ok hx, lev_part HG.out.ok hx⟩))
  clear HR m2 hM b2 hb3
  go_wp2_with (go_at_call 47; refine (HK.out).mono ?_; rintro e w3 ⟨rfl, rfl⟩; refine Hid.out ?_)
  refine Lib.hid ?_
  go_wp2_with (go_at_call 46; refine (HP.out).mono ?_; rintro e w4 ⟨b4, mb4, pv4, S4, rfl, g4, b4', n4, s4⟩; refine Hid.out ?_)
  refine Lib.hid ?_
  have HF := Lib.hid (NewG.back (e := .returned (.pointer (some ⟨b4, 0, none⟩))) ⟨b4, mb4, pv4, S4, rfl, g4, b4', n4, s4⟩ B3.out)
  clear g4 b4' n4 s4 HP
  go_wp2
  go_ret
  exact HF.out
set_option maxHeartbeats 2000000 in
set_option maxRecDepth 100000 in
theorem copy_in (h : GIn w b mb G pv S) (hG : G.length ≤ 100) :
    Calls Try.prog 33 #[.pointer (some ⟨b, 0, none⟩)] w fun e w' => NewG w w' G e := by
  have HG := Lib.hid h
  have c0 := h.c0
  have HK := Lib.hid (keysN_any (some mb) w)
  have hb3 := (Below.refl w.heap.size w).alloc (Nat.le_refl _) (.cells #[.map (some mb)] 52)
  have B3 := Lib.hid hb3
  have hgm : ∀ y, (gm G pv y).isSome = true ↔ y ∈ ids G := fun y => by
    unfold gm; by_cases q : y ∈ ids G <;> simp [q]
  have HP := Lib.hid (part_in (HG.out.keep hb3) hG (mk := mb) (gf := 65) (lb := #[.pointer (some ⟨w.heap.size, 0, none⟩)]) (by have := h.map.lt; simp; omega) (enters_of Try.func65 (by kernel_rfl) rfl)
    h.ok (N := G.length) hG
    (seqK_mono (keys_node (A := (· ∈ ids G)) (h.map.block (hb3.block _ h.map.lt)) (fun x hx => (hgm x).1 hx) w.heap.size (by simp) (cells_new w _ _ 0 _ rfl) 7 (by omega)) fun ss hss => ⟨hss.1, fun x => by rw [hss.2 x, hgm x]⟩)
    (fun x _ => ⟨rfl, rfl⟩))
  clear h hb3 hgm
  go_enter Try.func33, Try.ntmps33
  go_wp2_with (go_at_call 57; refine (HK.out).mono ?_; rintro e w3 ⟨rfl, rfl⟩; refine Hid.out ?_)
  refine Lib.hid ?_
  go_wp2_with (go_at_call 46; refine (HP.out).mono ?_; rintro e w4 ⟨b4, mb4, pv4, S4, rfl, g4, b4', n4, s4⟩; refine Hid.out ?_)
  refine Lib.hid ?_
  have HF := Lib.hid (NewG.back (e := .returned (.pointer (some ⟨b4, 0, none⟩))) ⟨b4, mb4, pv4, S4, rfl, g4, b4', n4, s4⟩ B3.out)
  clear g4 b4' n4 s4 HP
  go_wp2
  go_ret
  exact HF.out
end

/-! ### As an object -/
def graphK (b : Nat) (G : List Nd) : Kind where
  Q w B S := ∃ mb pv, GIn w b mb G pv S ∧ ∀ x, B x ↔ x = b ∨ x = mb
  lt := fun ⟨_, _, h, hB⟩ x hx => h.lt x (hx.imp_left (hB x).1)
  kept := fun ⟨mb, pv, h, hB⟩ hk => ⟨mb, pv, h.kept fun x hx => hk x (hx.imp_left (hB x).2), hB⟩
section
variable {w0 w : World} {os : List Ob} {i b : Nat} {G : List Nd}
theorem OMem.gin (h : OMem w0 w os) (hi : os[i]? = some (.of (graphK b G))) : ∃ mb pv S, GIn w b mb G pv S := by
  obtain ⟨B, S, mb, pv, hg, _⟩ := h.look hi
  exact ⟨mb, pv, S, hg⟩
theorem NewG.push {w' : World} {e : Ending} (h : OMem w0 w os) (k : NewG w w' G e) : ∃ c, e = .returned (.pointer (some ⟨c, 0, none⟩)) ∧ Below w.heap.size w w' ∧ OMem w0 w' (os ++ [.of (graphK c G)]) := by
  obtain ⟨b', mb', pv', S', h1, h2, h3, h4, h5⟩ := k
  refine ⟨b', h1, h3, h.make h3 (K := graphK b' G) (B := fun x => x = b' ∨ x = mb') (S := S') ⟨mb', pv', h2, fun _ => Iff.rfl⟩ (fun x hx => ?_) fun x hx => .inr ⟨h5 x hx, fun q => ?_⟩⟩
  · rcases hx with rfl | rfl
    · exact h4.1
    · exact h4.2
  · have := h2.sep x hx
    rcases q with q | q
    · exact this.2.1 q
    · exact this.2.2 q
theorem new_newG (w : World) : Calls Try.prog 7 #[] w fun e w' => NewG w w' [] e := by
  refine (new_in w).mono fun e w' ⟨he, hw⟩ => ?_
  have hb1 := (Below.refl w.heap.size w).alloc (Nat.le_refl _) (.map #[] 0)
  have hb2 := (Below.refl (w.alloc (.map #[] 0)).heap.size (w.alloc (.map #[] 0))).alloc (Nat.le_refl _) (.cells #[.map (some w.heap.size)] 54)
  have hs1 : (w.alloc (.map #[] 0)).heap.size = w.heap.size + 1 := by simp
  subst hw
  refine ⟨w.heap.size + 1, w.heap.size, fun _ => .slice none 0 0, fun _ => False, he, ⟨ok_nil, ?_, ?_, (fun n hn => by cases hn), by omega, fun _ q => q.elim⟩, hb1.trans (hb2.mono (by omega)), ⟨by omega, Nat.le_refl _⟩, fun _ q => q.elim⟩
  · have := (MapKept.heap_alloc (w.alloc (.map #[] 0)) (.cells #[.map (some w.heap.size)] 54)).1
    rwa [hs1] at this
  · exact ((iMap_made w).block (hb2.block _ (by omega))).congr (fun x => by unfold gm; rw [if_neg]; simp [ids]) rfl
theorem Calls.reads {f : FuncId} {args : Array Value} {r : Value} (h : Calls Try.prog f args w fun e w' => e = .returned r ∧ Below w.heap.size w w') : Calls Try.prog f args w (Reads w r) := h
/-- The landed package's contracts. -/
def theApi : GApi where
  ob b G := .of (graphK b G)
  ok h hi := by obtain ⟨mb, pv, S, hg⟩ := h.gin hi; exact hg.ok
  new_ {w0 w os} h := (new_newG w).mono fun e w' k => by obtain ⟨c, h1, _, h3⟩ := k.push h; exact ⟨c, h1, h3⟩
  add_ {w0 w os i b G pv n} h hi hp hl hG := by
    obtain ⟨B, S, ⟨mb, pv0, hg, hB⟩, hch⟩ := h.change hi
    refine (add_in hg hp hl hG).mono fun e w' ⟨he, hgr, pv', S', hg', hS'⟩ => ⟨he, ?_⟩
    refine hch hgr.os hgr.tape hgr.output hgr.size (fun x hx hn => hgr.block x hx (fun q => hn ((hB x).2 (.inr (Option.some.inj q))))) (K' := graphK b (add G n).2) (B' := B) (S' := S') ⟨mb, pv', hg', hB⟩ (fun x hx => .inl hx) fun x hx => ?_
    rcases hS' x hx with q | q
    · exact .inl q
    · refine .inr (.inr ⟨q, fun r => ?_⟩)
      have := hg.lt x (.inl ((hB x).1 r))
      omega
  len_ h hi _ := by obtain ⟨mb, pv, S, hg⟩ := h.gin hi; exact (len_in hg).mono fun e w' ⟨he, hw⟩ => ⟨he, by rw [hw]; exact Below.refl _ _⟩
  has_ x h hi _ := by obtain ⟨mb, pv, S, hg⟩ := h.gin hi; exact (has_in hg x).mono fun e w' ⟨he, hw⟩ => ⟨he, hw.1⟩
  level_ x h hi _ := by obtain ⟨mb, pv, S, hg⟩ := h.gin hi; exact (level_in hg x).mono fun e w' ⟨he, hw⟩ => ⟨he, hw.1⟩
  before_ x y h hi hG := by obtain ⟨mb, pv, S, hg⟩ := h.gin hi; exact before_in hg hG x y
  parents_ x h hi hG := by obtain ⟨mb, pv, S, hg⟩ := h.gin hi; exact parents_in hg hG x
  past_ x h hi hG := by obtain ⟨mb, pv, S, hg⟩ := h.gin hi; exact past_in hg hG x
  down_ h hi hG hv hx := by obtain ⟨mb, pv, S, hg⟩ := h.gin hi; exact down_in hg hG hv hx
  heads_ h hi hG := by obtain ⟨mb, pv, S, hg⟩ := h.gin hi; exact heads_in hg hG
  sorted_ h hi _ hv hx := by obtain ⟨mb, pv, S, hg⟩ := h.gin hi; exact sorted_in hg hv hx
  same_ h hi hj hG _ := by
    obtain ⟨mb, pv, S, hg⟩ := h.gin hi
    obtain ⟨mb2, pv2, S2, hk⟩ := h.gin hj
    exact same_in hg hk hG
  sameNil _ _ _ := sameNil_in _ _
  restrict_ h hi hG hv hx := by
    obtain ⟨mb, pv, S, hg⟩ := h.gin hi
    exact (restrict_in hg hG hv hx).mono fun e w' k => k.push h
  copy_ h hi hG := by
    obtain ⟨mb, pv, S, hg⟩ := h.gin hi
    exact (copy_in hg hG).mono fun e w' k => k.push h
end
end Go.Proofs.Ytihnnffhpgbgjaa

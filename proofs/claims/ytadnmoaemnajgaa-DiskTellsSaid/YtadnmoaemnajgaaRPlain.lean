/- Plain facts on the reference's disk. -/
import Derived.Test.YtadnmoaemnajgaaRSettle
namespace Go.Proofs.Ytadnmoaemnajgaa
open Dp

theorem look_set (R : Rf) (x : Fl) (f : Int) : (R.set x).look f = if f = (x.num : Int) then some x else R.look f := by
  unfold Rf.set Rf.look
  rw [List.find?_append, List.find?_filter]
  by_cases h : f = (x.num : Int)
  · rw [if_pos h]
    have : R.files.find? (fun a => decide (decide (a.num ≠ x.num) = true ∧ decide ((a.num : Int) = f) = true)) = none := by
      rw [List.find?_eq_none]
      intro y _
      simp only [decide_eq_true_eq, not_and]
      intro h1 h2; omega
    rw [this]
    simp [h]
  · rw [if_neg h]
    have h1 : (fun a : Fl => decide (decide (a.num ≠ x.num) = true ∧ decide ((a.num : Int) = f) = true)) = fun a => decide ((a.num : Int) = f) := by
      funext a
      by_cases h2 : (a.num : Int) = f
      · have : a.num ≠ x.num := fun e => h (by rw [← e]; exact h2.symm)
        simp [h2, this]
      · simp [h2]
    rw [h1]
    have h2 : ([x] : List Fl).find? (fun a => decide ((a.num : Int) = f)) = none := by
      simp; omega
    rw [h2]; simp
theorem now_set (R : Rf) (x : Fl) (f : Int) : (R.set x).now f = if f = (x.num : Int) then x.now else R.now f := by
  unfold Rf.now; rw [look_set]; split <;> rfl
theorem dur_set (R : Rf) (x : Fl) (f : Int) : (R.set x).dur f = if f = (x.num : Int) then x.dur else R.dur f := by
  unfold Rf.dur; rw [look_set]; split <;> rfl
theorem now_harden (R : Rf) (p : Nat × Nat) (f : Int) : (R.harden p).now f = R.now f := by
  unfold Rf.harden; rw [now_set]
  split
  · rename_i h; rw [h]
  · rfl
def Rf.hardens (R : Rf) (ps : List (Nat × Nat)) : Rf := ps.foldl Rf.harden R
theorem rhardens_snoc (R : Rf) (ps : List (Nat × Nat)) (p : Nat × Nat) : R.hardens (ps ++ [p]) = (R.hardens ps).harden p := by simp [Rf.hardens, List.foldl_append]
theorem rhardens_keeps : ∀ (ps : List (Nat × Nat)) (R : Rf), (R.hardens ps).queue = R.queue ∧ (R.hardens ps).lost = R.lost ∧ (R.hardens ps).down = R.down ∧ (R.hardens ps).armed = R.armed ∧ (R.hardens ps).keep = R.keep ∧ ∀ f, (R.hardens ps).now f = R.now f
  | [], _ => ⟨rfl, rfl, rfl, rfl, rfl, fun _ => rfl⟩
  | p :: ps, R => by
    obtain ⟨h1, h2, h3, h4, h5, h6⟩ := rhardens_keeps ps (R.harden p)
    exact ⟨h1, h2, h3, h4, h5, fun f => (h6 f).trans (now_harden R p f)⟩
theorem hardens_flags : ∀ (ps : List (Nat × Nat)) (R : Rf) (d : Bool) (a : Nat), ({ R with down := d, armed := a } : Rf).hardens ps = { R.hardens ps with down := d, armed := a }
  | [], _, _, _ => rfl
  | p :: ps, R, d, a => hardens_flags ps (R.harden p) d a
/-- The files that the durable parts make. -/
def fallen (l : List Fl) : List Fl := l.map fun x => ⟨x.num, x.dur, x.dur⟩
def Rf.crash (R : Rf) (ks : List Int) : Rf :=
  if R.down then R else { R.hardens (survive ks 0 R.queue) with files := fallen (R.hardens (survive ks 0 R.queue)).files, queue := [], armed := 0, down := true }
theorem Rf.Ok.fallen {R : Rf} (h : R.Ok) : ({ R with files := fallen R.files, queue := [] } : Rf).Ok := by
  refine ⟨?_, fun x hx => ?_, by simp, by simp, h.lost, h.armed, h.keep, h.size⟩
  · have : (Proofs.Ytadnmoaemnajgaa.fallen R.files).map Fl.num = R.files.map Fl.num := by simp [Proofs.Ytadnmoaemnajgaa.fallen, Function.comp_def]
    simp only [this]; exact h.nums
  · obtain ⟨y, hy, rfl⟩ := List.mem_map.1 hx
    have := h.file y hy
    exact ⟨this.1, this.2.2, this.2.2⟩
theorem Rf.Ok.fallen1 {R : Rf} (h : R.Ok) : ({ R with files := Proofs.Ytadnmoaemnajgaa.fallen R.files } : Rf).Ok := ⟨h.fallen.nums, h.fallen.file, h.queue, h.few, h.lost, h.armed, h.keep, h.size⟩
theorem survive_none : ∀ (ps : List (Nat × Nat)) (i : Nat), survive [] i ps = []
  | [], _ => rfl
  | p :: ps, i => by simp [survive, odd, survive_none ps]
theorem fallen_take {l : List Fl} {k : Nat} {x : Fl} (h : l[k]? = some x) : fallen (l.take (k + 1)) = fallen (l.take k) ++ [⟨x.num, x.dur, x.dur⟩] := by
  obtain ⟨hk, rfl⟩ := List.getElem?_eq_some_iff.1 h
  unfold fallen
  rw [List.take_succ_eq_append_getElem hk, List.map_append]
  rfl
theorem i64_and1 (n : Int) : bits .and .i64 n 1 = n % 2 := by
  have h7 : (BitVec.ofInt 64 1).toNat = 2 ^ 1 - 1 := by decide
  have key : (BitVec.ofInt 64 n &&& BitVec.ofInt 64 1).toNat = (n % ((2 ^ 64 : Nat) : Int)).toNat % 2 ^ 1 := by
    rw [BitVec.toNat_and, BitVec.toNat_ofInt, h7, Nat.and_two_pow_sub_one_eq_mod]
  show IntKind.i64.wrap ((BitVec.ofInt 64 n &&& BitVec.ofInt 64 1).toNat : Nat) = n % 2
  rw [key, IntKind.wrap_i64]
  omega

/-! ### The list of what a crash keeps -/
def KeepR (w : World) (lab : Nat → Nat) (id : Nat) (R : Rf) (L : RLoc) (v : Value) (ks : List Int) : Prop :=
  SrcIs w 1 v ks.length (intVs ks) ∧ ((v = L.kv ∧ ks = R.keep) ∨ ∀ ad n c, v = .slice (some ad) n c → 0 < n → (lab ad.block < id ∨ id + 64 ≤ lab ad.block))
theorem KeepR.src {w wr : World} {lab lab' : Nat → Nat} {id r : Nat} {R R' : Rf} {L L' : RLoc} {v : Value} {ks : List Int} (h : KeepR w lab id R L v ks) (hd : RIn wr lab' id r R' L') (hL : L'.kv = L.kv) (hk : R'.keep = R.keep) (hc : Chg id lab lab' w wr) :
    SrcIs wr 1 v ks.length (intVs ks) := by
  obtain ⟨⟨h1, h2⟩, h3⟩ := h
  rcases h3 with ⟨rfl, rfl⟩ | h3
  · have := SrcIs.of_own hd.keep (oneCell_ints _)
    rw [hL, hk] at this
    exact this
  · refine ⟨h1, ?_⟩
    rcases h2 with h2 | ⟨ad, cap, rfl, h4, h5⟩
    · exact .inl h2
    · refine .inr ⟨ad, cap, rfl, fun j u hj => ?_, h5⟩
      have h6 := h4 j u hj
      have hb : (ad.add j).block = ad.block := by cases ad; unfold Addr.add; split <;> rfl
      rw [World.cell?_of_block (w := w) (hc.block _ (Lib.lt_of_cell h6) (by rw [hb]; exact h3 ad _ _ rfl (by have := (List.getElem?_eq_some_iff.1 hj).1; rw [intVs_length] at this; omega)))]
      exact h6
theorem KeepR.self {w : World} {lab : Nat → Nat} {id r : Nat} {R : Rf} {L : RLoc} (h : RIn w lab id r R L) : KeepR w lab id R L L.kv R.keep := ⟨SrcIs.of_own h.keep (oneCell_ints _), .inl ⟨rfl, rfl⟩⟩
end Go.Proofs.Ytadnmoaemnajgaa

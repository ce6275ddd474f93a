/- Several texts in one: Zg, Zh, Zi, Zj, Zk. -/
import Derived.Test.YtlefgffnjcmfoaaGreatDoorMZA
import Derived.Test.YtlefgffnjcmfoaaGreatDoorMF
import Derived.Test.YtlefgffnjcmfoaaGreatDoorMP
import Derived.Test.YtlefgffnjcmfoaaGreatDoorMG
namespace Go.Proofs.YtlefgffnjcmfoaaGreatDoor
open Go.RowKit Go.Maps Go.ChangeMaps Go.MapKept
open Lx Sy Ch
attribute [local go_sem ↓] Go.wp_at_zero Go.wp_at_succ
section
variable {w0 w : World} {os : List Ob} {i j b g ob : Nat} {r : R} {cs old : Array Value} {X : Ob}
theorem LeftP.rowNil (hil : i < os.length) (h : LeftP w0 os i b r w) : LeftP w0 (os ++ [rowT (.slice none 0 0) []]) i b r w := by
  obtain ⟨v, e, h1, h2⟩ := h
  refine ⟨v, e, h1, ?_⟩
  rw [List.set_append_left _ _ hil]
  exact h2.rowNil 9 1
theorem LeftP.raw_row (h : LeftP w0 os i b r w) (hj : os[j]? = some (.raw g (outO old))) (hij : j ≠ i) (cs : Array Value) : LeftP w0 (os.set j (.raw g (outO cs))) i b r (w.setRow g cs) := by
  obtain ⟨v, e, h1, h2⟩ := h
  refine ⟨v, e, h1, ?_⟩
  rw [List.set_comm _ _ hij]
  exact h2.raw_row (i := j) (by rw [List.getElem?_set_ne hij.symm]; exact hj) cs
theorem LeftP.one (h : LeftP w0 (X :: os) 0 b r w) : LeftP w0 [X] 0 b r w := by
  obtain ⟨v, e, h1, h2⟩ := h
  exact ⟨v, e, h1, h2.take 1⟩
theorem LeftP.tx {tv : Value} {xs : List S} (h : LeftP w0 os i b r w) (hj : os[j]? = some (rowT tv xs)) (hij : j ≠ i) : TxAt w tv xs ∧ ∃ ta tc, tv = .slice ta xs.length tc := by
  obtain ⟨os', h2, h3⟩ := h.other hj hij
  have h4 := h2.rowAt (i := j) h3
  exact ⟨TxAt.of_own h4, own_form h4⟩
theorem OMem.row_fresh {e : TypeId} {size n : Nat} {v : Value} {xs : List Value} (h : OMem w0 w os) (hi : os[i]? = some (.row e size v n xs)) : ∀ x, v.ownBlock = some x → w0.heap.size ≤ x := by
  obtain ⟨lab, h⟩ := h
  obtain ⟨B, S, hq, hl, _⟩ := h.at_ i _ hi
  intro x hx
  have h1 := hl x ((hq.2.1 x).2 hx)
  rcases Nat.lt_or_ge x w0.heap.size with h2 | h2
  · have := h.und.labs x h2; omega
  · exact h2
/-- A store into what was there before leaves the row alone. -/
theorem LeftP.tx_keep {tv : Value} {xs : List S} (h : LeftP w0 os i b r w) (hj : os[j]? = some (rowT tv xs)) (hij : j ≠ i) {k : Nat} (hk : k < w0.heap.size) (cs : Array Value) : TxAt (w.setRow k cs) tv xs := by
  obtain ⟨os', h2, h3⟩ := h.other hj hij
  refine TxAt.of_own (ownsRow_block (h2.rowAt (i := j) h3) fun x hx => setRow_other w k x cs ?_)
  have := h2.row_fresh h3 x hx
  omega
theorem loc_rules : Sy.Loc rulesR := loc_bind (loc_part _ _) fun _ => loc_bind (loc_part _ _) fun _ => loc_bind (loc_part _ _) fun _ => loc_bind loc_sLevel fun _ => loc_bind loc_sRate fun _ => loc_bind loc_sKeep fun _ => loc_ret _
theorem rules_tail {α : Type} (K : Int → Int → Int → Int × Bool → Int × Int × Int → Int → R → α × R) (r : R) : (bindR (Sy.part [106, 111, 105, 110] joW) fun jo => bindR (Sy.part [104, 105, 115, 116, 111, 114, 121] hiW) fun hi => bindR (Sy.part [114, 101, 109, 111, 118, 101] reW) fun rm => bindR sLevel fun le => bindR sRate fun ra => bindR sKeep fun ke => K jo hi rm le ra ke) r =
    K (rulesR r).1.1 (rulesR r).1.2.1 (rulesR r).1.2.2.1 (rulesR r).1.2.2.2.1 (rulesR r).1.2.2.2.2.1 (rulesR r).1.2.2.2.2.2 (rulesR r).2 := by simp only [rulesR, bindR, retR]
theorem opt_no' {α : Type} {s : S} {f : R → α × R} {d : α} {r : R} (h : isO s (hdR r) = false) : opt s f d r = (d, r) := by unfold opt iffR; rw [h]; rfl
theorem opt_yes' {α : Type} {s : S} {f : R → α × R} {d : α} {r : R} (h : isO s (hdR r) = true) : opt s f d r = f (want s r).2 := by unfold opt iffR; rw [h]; rfl
set_option maxHeartbeats 8000000 in
set_option maxRecDepth 100000 in
theorem m_profile {R0 : R} (M : LeftP w0 [X] 0 b R0 w) (hE : Env w0) : Calls Tryz.prog 16 #[.pointer (some ⟨b, 0, none⟩)] w fun x w' => ∃ cs p, x = .returned (.agg cs) ∧ (isOk (parse R0).2 = true → (parse R0).1 = p) ∧ PfAt w' (.agg cs) p ∧ (∀ k, k < w0.heap.size → ∀ cs', PfAt (w'.setRow k cs') (.agg cs) p) ∧ LeftP w0 [X] 0 b (parse R0).2 w' := by
  have M0 := (M.raw (by simp) (outO #[.string (bs []), .int .i64 0, .int .i64 0, .int .i64 0, .bool false, .int .i64 0, .bool false, .bool false, .int .i64 0, .int .i64 0, .int .i64 0, .int .i64 0, .slice none 0 0, .int .i64 0, .int .i64 0, .int .i64 0, .int .i64 0, .bool false, .int .i64 0, .int .i64 0, .int .i64 0, .int .i64 0])).raw (by simp) (outO #[.string (bs []), .int .i64 0, .int .i64 0, .int .i64 0, .bool false, .int .i64 0, .bool false, .bool false, .int .i64 0, .int .i64 0, .int .i64 0, .int .i64 0, .slice none 0 0, .int .i64 0, .int .i64 0, .int .i64 0, .int .i64 0, .bool false, .int .i64 0, .int .i64 0, .int .i64 0, .int .i64 0])
  have M0 := Lib.hid (show LeftP w0 [X, .raw w.heap.size (outO #[.string (bs []), .int .i64 0, .int .i64 0, .int .i64 0, .bool false, .int .i64 0, .bool false, .bool false, .int .i64 0, .int .i64 0, .int .i64 0, .int .i64 0, .slice none 0 0, .int .i64 0, .int .i64 0, .int .i64 0, .int .i64 0, .bool false, .int .i64 0, .int .i64 0, .int .i64 0, .int .i64 0]), .raw (w.heap.size + 1) (outO #[.string (bs []), .int .i64 0, .int .i64 0, .int .i64 0, .bool false, .int .i64 0, .bool false, .bool false, .int .i64 0, .int .i64 0, .int .i64 0, .int .i64 0, .slice none 0 0, .int .i64 0, .int .i64 0, .int .i64 0, .int .i64 0, .bool false, .int .i64 0, .int .i64 0, .int .i64 0, .int .i64 0])] 0 b R0 ((w.alloc (outO #[.string (bs []), .int .i64 0, .int .i64 0, .int .i64 0, .bool false, .int .i64 0, .bool false, .bool false, .int .i64 0, .int .i64 0, .int .i64 0, .int .i64 0, .slice none 0 0, .int .i64 0, .int .i64 0, .int .i64 0, .int .i64 0, .bool false, .int .i64 0, .int .i64 0, .int .i64 0, .int .i64 0])).alloc (outO #[.string (bs []), .int .i64 0, .int .i64 0, .int .i64 0, .bool false, .int .i64 0, .bool false, .bool false, .int .i64 0, .int .i64 0, .int .i64 0, .int .i64 0, .slice none 0 0, .int .i64 0, .int .i64 0, .int .i64 0, .int .i64 0, .bool false, .int .i64 0, .int .i64 0, .int .i64 0, .int .i64 0])) from by
    have e : (w.alloc (outO #[.string (bs []), .int .i64 0, .int .i64 0, .int .i64 0, .bool false, .int .i64 0, .bool false, .bool false, .int .i64 0, .int .i64 0, .int .i64 0, .int .i64 0, .slice none 0 0, .int .i64 0, .int .i64 0, .int .i64 0, .int .i64 0, .bool false, .int .i64 0, .int .i64 0, .int .i64 0, .int .i64 0])).heap.size = w.heap.size + 1 := by simp
    rw [e] at M0; exact M0)
  clear M
  go_enter Tryz.func16, Tryz.ntmps16
  go_upto_region 2 with fail
  rw [show (w.alloc (.cells #[.string ⟨#[]⟩, .int .i64 0, .int .i64 0, .int .i64 0, .bool false, .int .i64 0, .bool false, .bool false, .int .i64 0, .int .i64 0, .int .i64 0, .int .i64 0, .slice none 0 0, .int .i64 0, .int .i64 0, .int .i64 0, .int .i64 0, .bool false, .int .i64 0, .int .i64 0, .int .i64 0, .int .i64 0] 24)).alloc (.cells #[.string ⟨#[]⟩, .int .i64 0, .int .i64 0, .int .i64 0, .bool false, .int .i64 0, .bool false, .bool false, .int .i64 0, .int .i64 0, .int .i64 0, .int .i64 0, .slice none 0 0, .int .i64 0, .int .i64 0, .int .i64 0, .int .i64 0, .bool false, .int .i64 0, .int .i64 0, .int .i64 0, .int .i64 0] 24) = (w.alloc (outO #[.string (bs []), .int .i64 0, .int .i64 0, .int .i64 0, .bool false, .int .i64 0, .bool false, .bool false, .int .i64 0, .int .i64 0, .int .i64 0, .int .i64 0, .slice none 0 0, .int .i64 0, .int .i64 0, .int .i64 0, .int .i64 0, .bool false, .int .i64 0, .int .i64 0, .int .i64 0, .int .i64 0])).alloc (outO #[.string (bs []), .int .i64 0, .int .i64 0, .int .i64 0, .bool false, .int .i64 0, .bool false, .bool false, .int .i64 0, .int .i64 0, .int .i64 0, .int .i64 0, .slice none 0 0, .int .i64 0, .int .i64 0, .int .i64 0, .int .i64 0, .bool false, .int .i64 0, .int .i64 0, .int .i64 0, .int .i64 0]) from rfl]
  generalize (w.alloc (outO #[.string (bs []), .int .i64 0, .int .i64 0, .int .i64 0, .bool false, .int .i64 0, .bool false, .bool false, .int .i64 0, .int .i64 0, .int .i64 0, .int .i64 0, .slice none 0 0, .int .i64 0, .int .i64 0, .int .i64 0, .int .i64 0, .bool false, .int .i64 0, .int .i64 0, .int .i64 0, .int .i64 0])).alloc (outO #[.string (bs []), .int .i64 0, .int .i64 0, .int .i64 0, .bool false, .int .i64 0, .bool false, .bool false, .int .i64 0, .int .i64 0, .int .i64 0, .int .i64 0, .slice none 0 0, .int .i64 0, .int .i64 0, .int .i64 0, .int .i64 0, .bool false, .int .i64 0, .int .i64 0, .int .i64 0, .int .i64 0]) = ws at *
  obtain ⟨g, hg⟩ : ∃ g, g = w.heap.size := ⟨_, rfl⟩
  obtain ⟨ob, hob⟩ : ∃ ob, ob = w.heap.size + 1 := ⟨_, rfl⟩
  rw [← hob, ← hg] at M0 ⊢
  obtain ⟨G, hG⟩ : ∃ G, G = Ob.raw g (outO #[.string (bs []), .int .i64 0, .int .i64 0, .int .i64 0, .bool false, .int .i64 0, .bool false, .bool false, .int .i64 0, .int .i64 0, .int .i64 0, .int .i64 0, .slice none 0 0, .int .i64 0, .int .i64 0, .int .i64 0, .int .i64 0, .bool false, .int .i64 0, .int .i64 0, .int .i64 0, .int .i64 0]) := ⟨_, rfl⟩
  have M := Lib.hid (show LeftP w0 (X :: G :: .raw ob (outO #[.string (bs []), .int .i64 0, .int .i64 0, .int .i64 0, .bool false, .int .i64 0, .bool false, .bool false, .int .i64 0, .int .i64 0, .int .i64 0, .int .i64 0, .slice none 0 0, .int .i64 0, .int .i64 0, .int .i64 0, .int .i64 0, .bool false, .int .i64 0, .int .i64 0, .int .i64 0, .int .i64 0]) :: []) 0 b R0 ws from by rw [hG]; exact M0.out)
  have HG0 := Lib.hid hG
  clear M0 hg hob hG
  obtain ⟨R1, q1⟩ : ∃ r, r = (want [110, 101, 116, 119, 111, 114, 107] R0).2 := ⟨_, rfl⟩
  have Q1 := Lib.hid (show want [110, 101, 116, 119, 111, 114, 107] R0 = ((), R1) by rw [q1])
  have H := m_expect (ss := [[110, 101, 116, 119, 111, 114, 107]]) (by simp) M.out (by decide) (by decide)
  have H := Lib.hid (show Calls Tryz.prog 40 #[.pointer (some ⟨b, 0, none⟩), .slice (some ⟨ws.heap.size, 0, none⟩) 1 1] ((ws).alloc (.cells #[.string ⟨#[110, 101, 116, 119, 111, 114, 107]⟩] 9)) (fun x w' => x = .returned (.tuple #[]) ∧ LeftP w0 (X :: G :: .raw ob (outO #[.string (bs []), .int .i64 0, .int .i64 0, .int .i64 0, .bool false, .int .i64 0, .bool false, .bool false, .int .i64 0, .int .i64 0, .int .i64 0, .int .i64 0, .slice none 0 0, .int .i64 0, .int .i64 0, .int .i64 0, .int .i64 0, .bool false, .int .i64 0, .int .i64 0, .int .i64 0, .int .i64 0]) :: []) 0 b R1 w') from by rw [q1]; exact H)
  clear M q1
  go_wp2_with (go_at_call 40; refine (H.out).mono ?_; rintro e2 v2 ⟨rfl, m⟩; refine Hid.out ?_)
  refine Lib.hid ?_
  have M := Lib.hid (show LeftP w0 (X :: G :: .raw ob (outO #[.string (bs []), .int .i64 0, .int .i64 0, .int .i64 0, .bool false, .int .i64 0, .bool false, .bool false, .int .i64 0, .int .i64 0, .int .i64 0, .int .i64 0, .slice none 0 0, .int .i64 0, .int .i64 0, .int .i64 0, .int .i64 0, .bool false, .int .i64 0, .int .i64 0, .int .i64 0, .int .i64 0]) :: []) 0 b R1 (v2) from m)
  clear m H
  go_upto_region 3 with fail
  have H := Lib.hid (m_name (by simp) M.out)
  obtain ⟨R3, q3⟩ : ∃ r, r = (name R1).2 := ⟨_, rfl⟩
  obtain ⟨zn, y3⟩ : ∃ z, z = (name R1).1 := ⟨_, rfl⟩
  have Q3 := Lib.hid (show name R1 = (zn, R3) by rw [q3, y3])
  rw [← q3, ← y3] at H
  clear M q3 y3
  go_wp2_with (go_at_call 41; refine (H.out).mono ?_; rintro e4 v4 ⟨rfl, m⟩; refine Hid.out ?_)
  refine Lib.hid ?_
  have M := Lib.hid (show LeftP w0 (X :: G :: .raw ob (outO #[.string (bs []), .int .i64 0, .int .i64 0, .int .i64 0, .bool false, .int .i64 0, .bool false, .bool false, .int .i64 0, .int .i64 0, .int .i64 0, .int .i64 0, .slice none 0 0, .int .i64 0, .int .i64 0, .int .i64 0, .int .i64 0, .bool false, .int .i64 0, .int .i64 0, .int .i64 0, .int .i64 0]) :: []) 0 b R3 (v4) from m)
  clear m H
  have g1 := M.out.out_at (j := 2) rfl (by decide)
  have g2 : (v4).cell? ⟨ob, 0, none⟩ = some (.string (bs [])) := by rw [Lib.cell_of_heap g1]; rfl
  have g3 : (v4).frozen? ⟨ob, 0, none⟩ = false := Lib.frozen_of_heap g1 0
  clear g1
  have M := Lib.hid (show LeftP w0 (X :: G :: .raw ob (outO #[.string (bs zn), .int .i64 0, .int .i64 0, .int .i64 0, .bool false, .int .i64 0, .bool false, .bool false, .int .i64 0, .int .i64 0, .int .i64 0, .int .i64 0, .slice none 0 0, .int .i64 0, .int .i64 0, .int .i64 0, .int .i64 0, .bool false, .int .i64 0, .int .i64 0, .int .i64 0, .int .i64 0]) :: []) 0 b R3 ((v4).setCell ⟨ob, 0, none⟩ (.string (bs zn))) from M.out.out_set (j := 2) rfl (by decide) 0 _)
  go_upto_region 4 with fail
  clear g2 g3
  generalize (v4).setCell ⟨ob, 0, none⟩ (.string (bs zn)) = u5 at *
  obtain ⟨R6, q6⟩ : ∃ r, r = (want [59] R3).2 := ⟨_, rfl⟩
  have Q6 := Lib.hid (show want [59] R3 = ((), R6) by rw [q6])
  obtain ⟨R7, q7⟩ : ∃ r, r = (want [101, 100, 105, 116] R6).2 := ⟨_, rfl⟩
  have Q7 := Lib.hid (show want [101, 100, 105, 116] R6 = ((), R7) by rw [q7])
  have H := m_expect (ss := [[59], [101, 100, 105, 116]]) (by simp) M.out (by decide) (by decide)
  have H := Lib.hid (show Calls Tryz.prog 40 #[.pointer (some ⟨b, 0, none⟩), .slice (some ⟨u5.heap.size, 0, none⟩) 2 2] ((u5).alloc (.cells #[.string ⟨#[59]⟩, .string ⟨#[101, 100, 105, 116]⟩] 9)) (fun x w' => x = .returned (.tuple #[]) ∧ LeftP w0 (X :: G :: .raw ob (outO #[.string (bs zn), .int .i64 0, .int .i64 0, .int .i64 0, .bool false, .int .i64 0, .bool false, .bool false, .int .i64 0, .int .i64 0, .int .i64 0, .int .i64 0, .slice none 0 0, .int .i64 0, .int .i64 0, .int .i64 0, .int .i64 0, .bool false, .int .i64 0, .int .i64 0, .int .i64 0, .int .i64 0]) :: []) 0 b R7 w') from by rw [q7, q6]; exact H)
  clear M q6 q7
  go_wp2_with (go_at_call 40; refine (H.out).mono ?_; rintro e8 v8 ⟨rfl, m⟩; refine Hid.out ?_)
  refine Lib.hid ?_
  have M := Lib.hid (show LeftP w0 (X :: G :: .raw ob (outO #[.string (bs zn), .int .i64 0, .int .i64 0, .int .i64 0, .bool false, .int .i64 0, .bool false, .bool false, .int .i64 0, .int .i64 0, .int .i64 0, .int .i64 0, .slice none 0 0, .int .i64 0, .int .i64 0, .int .i64 0, .int .i64 0, .bool false, .int .i64 0, .int .i64 0, .int .i64 0, .int .i64 0]) :: []) 0 b R7 (v8) from m)
  clear m H
  go_upto_region 5 with fail
  have H := m_yn (by simp) M.out hE
  obtain ⟨R9, q9⟩ : ∃ r, r = (one yn R7).2 := ⟨_, rfl⟩
  obtain ⟨zed, y9⟩ : ∃ z, z = (one yn R7).1 := ⟨_, rfl⟩
  have Q9 := Lib.hid (show one yn R7 = (zed, R9) by rw [q9, y9])
  rw [← q9, ← y9] at H
  obtain ⟨ed, hed⟩ : ∃ z : Int, z = if zed = 1 then 2 else 0 := ⟨_, rfl⟩
  rw [← hed] at H
  have HED := Lib.hid hed
  have H := Lib.hid (show Calls Tryz.prog 42 #[.pointer (some ⟨b, 0, none⟩), .int .i64 0, .slice (some ⟨v8.heap.size, 0, none⟩) 2 2] ((v8).alloc (.cells #[.string ⟨#[110, 111]⟩, .string ⟨#[121, 101, 115]⟩] 9)) (fun x w' => x = .returned (.int .i64 ed) ∧ LeftP w0 (X :: G :: .raw ob (outO #[.string (bs zn), .int .i64 0, .int .i64 0, .int .i64 0, .bool false, .int .i64 0, .bool false, .bool false, .int .i64 0, .int .i64 0, .int .i64 0, .int .i64 0, .slice none 0 0, .int .i64 0, .int .i64 0, .int .i64 0, .int .i64 0, .bool false, .int .i64 0, .int .i64 0, .int .i64 0, .int .i64 0]) :: []) 0 b R9 w') from H)
  clear M hed q9 y9
  go_wp2_with (go_at_call 42; refine (H.out).mono ?_; rintro e10 v10 ⟨rfl, m⟩; refine Hid.out ?_)
  refine Lib.hid ?_
  have M := Lib.hid (show LeftP w0 (X :: G :: .raw ob (outO #[.string (bs zn), .int .i64 0, .int .i64 0, .int .i64 0, .bool false, .int .i64 0, .bool false, .bool false, .int .i64 0, .int .i64 0, .int .i64 0, .int .i64 0, .slice none 0 0, .int .i64 0, .int .i64 0, .int .i64 0, .int .i64 0, .bool false, .int .i64 0, .int .i64 0, .int .i64 0, .int .i64 0]) :: []) 0 b R9 (v10) from m)
  clear m H
  have g1 := M.out.out_at (j := 2) rfl (by decide)
  have g2 : (v10).cell? ⟨ob, 1, none⟩ = some (.int .i64 0) := by rw [Lib.cell_of_heap g1]; rfl
  have g3 : (v10).frozen? ⟨ob, 1, none⟩ = false := Lib.frozen_of_heap g1 1
  clear g1
  have M := Lib.hid (show LeftP w0 (X :: G :: .raw ob (outO #[.string (bs zn), .int .i64 ed, .int .i64 0, .int .i64 0, .bool false, .int .i64 0, .bool false, .bool false, .int .i64 0, .int .i64 0, .int .i64 0, .int .i64 0, .slice none 0 0, .int .i64 0, .int .i64 0, .int .i64 0, .int .i64 0, .bool false, .int .i64 0, .int .i64 0, .int .i64 0, .int .i64 0]) :: []) 0 b R9 ((v10).setCell ⟨ob, 1, none⟩ (.int .i64 ed)) from M.out.out_set (j := 2) rfl (by decide) 1 _)
  go_upto_region 6 with fail
  clear g2 g3
  generalize (v10).setCell ⟨ob, 1, none⟩ (.int .i64 ed) = u11 at *
  obtain ⟨⟨wi, R12⟩, hwi⟩ : ∃ q : Int × R, q = (if zed = 1 then opt [119, 105, 116, 104, 105, 110] (number 1) 0 else retR (0 : Int)) R9 := ⟨_, rfl⟩
  have QE := Lib.hid hwi.symm
  clear hwi
  obtain ⟨bw, hbw⟩ : ∃ z : Bool, z = (decide (zed = 1) && isO [119, 105, 116, 104, 105, 110] (hdR R9)) := ⟨_, rfl⟩
  obtain ⟨R13, hrb⟩ : ∃ z : R, z = if zed = 1 then acc [119, 105, 116, 104, 105, 110] R9 else R9 := ⟨_, rfl⟩
  have HBW := Lib.hid hbw
  have HRB := Lib.hid hrb
  clear hbw hrb
  go_cut [23] from 17 to 23 (fun u wx => u = .bool bw ∧ Hid (LeftP w0 (X :: G :: .raw ob (outO #[.string (bs zn), .int .i64 ed, .int .i64 0, .int .i64 0, .bool false, .int .i64 0, .bool false, .bool false, .int .i64 0, .int .i64 0, .int .i64 0, .int .i64 0, .slice none 0 0, .int .i64 0, .int .i64 0, .int .i64 0, .int .i64 0, .bool false, .int .i64 0, .int .i64 0, .int .i64 0, .int .i64 0]) :: []) 0 b R13 wx))
  case first =>
    have g1 := M.out.out_at (j := 2) rfl (by decide)
    have p1 : (u11).cell? ⟨ob, 1, none⟩ = some (.int .i64 ed) := by rw [Lib.cell_of_heap g1]; rfl
    clear g1
    by_cases h1 : zed = 1
    · have hb : (ed == 2) = true := by rw [HED.out, if_pos h1]; rfl
      have hO := HBW.out
      have hR := HRB.out
      rw [decide_eq_true h1, Bool.true_and] at hO
      rw [if_pos h1] at hR
      have H := m_accept (s := [119, 105, 116, 104, 105, 110]) (by simp) M.out (by decide)
      rw [← hO, ← hR] at H
      have H := Lib.hid H
      clear h1 hO hR M
      go_wp2_with (go_at_call 43; refine (H.out).mono ?_; rintro e14 v14 ⟨rfl, m⟩; refine Hid.out ?_)
      refine Lib.hid ?_
      have M := Lib.hid (show LeftP w0 (X :: G :: .raw ob (outO #[.string (bs zn), .int .i64 ed, .int .i64 0, .int .i64 0, .bool false, .int .i64 0, .bool false, .bool false, .int .i64 0, .int .i64 0, .int .i64 0, .int .i64 0, .slice none 0 0, .int .i64 0, .int .i64 0, .int .i64 0, .int .i64 0, .bool false, .int .i64 0, .int .i64 0, .int .i64 0, .int .i64 0]) :: []) 0 b R13 (v14) from m)
      clear m H
      go_wp2
      go_meet
      exact ⟨rfl, M⟩
    · have hb : (ed == 2) = false := by rw [HED.out, if_neg h1]; rfl
      have HO := Lib.hid (show false = bw by rw [HBW.out, decide_eq_false h1]; rfl)
      have M9 := Lib.hid (show LeftP w0 (X :: G :: .raw ob (outO #[.string (bs zn), .int .i64 ed, .int .i64 0, .int .i64 0, .bool false, .int .i64 0, .bool false, .bool false, .int .i64 0, .int .i64 0, .int .i64 0, .int .i64 0, .slice none 0 0, .int .i64 0, .int .i64 0, .int .i64 0, .int .i64 0, .bool false, .int .i64 0, .int .i64 0, .int .i64 0, .int .i64 0]) :: []) 0 b R13 (u11) by rw [HRB.out, if_neg h1]; exact M.out)
      clear h1 M
      go_wp2
      go_meet
      exact ⟨by rw [← HO.out], M9⟩
  case rest =>
    clear M
    obtain ⟨rfl, M⟩ := hcut
    generalize wc = t15 at *
    go_upto_if 23 with fail
    go_cut [23] from 24 to 26 (fun _ wx => Hid (LeftP w0 (X :: G :: .raw ob (outO #[.string (bs zn), .int .i64 ed, .int .i64 wi, .int .i64 0, .bool false, .int .i64 0, .bool false, .bool false, .int .i64 0, .int .i64 0, .int .i64 0, .int .i64 0, .slice none 0 0, .int .i64 0, .int .i64 0, .int .i64 0, .int .i64 0, .bool false, .int .i64 0, .int .i64 0, .int .i64 0, .int .i64 0]) :: []) 0 b R12 wx))
    case first =>
      by_cases h1 : bw = true
      · have HK := Lib.hid (show number 1 R13 = (wi, R12) by
          have h2 := HBW.out.symm.trans h1
          rw [Bool.and_eq_true, decide_eq_true_eq] at h2
          have h3 := QE.out
          rw [if_pos h2.1, opt_yes' h2.2] at h3
          rw [HRB.out, if_pos h2.1, acc_yes h2.2]; exact h3)
        rw [h1]
        clear h1 HBW HRB
        have H := Lib.hid (m_number (by simp) M.out 1)
        rw [HK.out] at H
        clear M
        go_wp2_with (go_at_call 44; refine (H.out).mono ?_; rintro e16 v16 ⟨rfl, m⟩; refine Hid.out ?_)
        refine Lib.hid ?_
        have M := Lib.hid (show LeftP w0 (X :: G :: .raw ob (outO #[.string (bs zn), .int .i64 ed, .int .i64 0, .int .i64 0, .bool false, .int .i64 0, .bool false, .bool false, .int .i64 0, .int .i64 0, .int .i64 0, .int .i64 0, .slice none 0 0, .int .i64 0, .int .i64 0, .int .i64 0, .int .i64 0, .bool false, .int .i64 0, .int .i64 0, .int .i64 0, .int .i64 0]) :: []) 0 b R12 (v16) from m)
        clear m H
        have g1 := M.out.out_at (j := 2) rfl (by decide)
        have g2 : (v16).cell? ⟨ob, 2, none⟩ = some (.int .i64 0) := by rw [Lib.cell_of_heap g1]; rfl
        have g3 : (v16).frozen? ⟨ob, 2, none⟩ = false := Lib.frozen_of_heap g1 2
        clear g1
        have M := Lib.hid (show LeftP w0 (X :: G :: .raw ob (outO #[.string (bs zn), .int .i64 ed, .int .i64 wi, .int .i64 0, .bool false, .int .i64 0, .bool false, .bool false, .int .i64 0, .int .i64 0, .int .i64 0, .int .i64 0, .slice none 0 0, .int .i64 0, .int .i64 0, .int .i64 0, .int .i64 0, .bool false, .int .i64 0, .int .i64 0, .int .i64 0, .int .i64 0]) :: []) 0 b R12 ((v16).setCell ⟨ob, 2, none⟩ (.int .i64 wi)) from M.out.out_set (j := 2) rfl (by decide) 2 _)
        go_wp2
        go_meet
        exact M
      · have hb : bw = false := by simpa using h1
        have HQ : (0, R13) = (wi, R12) := by
          have h3 := QE.out
          by_cases h4 : zed = 1
          · have h2 := HBW.out
            rw [hb, decide_eq_true h4, Bool.true_and] at h2
            rw [if_pos h4, opt_no' h2.symm] at h3
            rw [HRB.out, if_pos h4, acc_no h2.symm]; exact h3
          · rw [if_neg h4] at h3
            rw [HRB.out, if_neg h4]; exact h3
        obtain ⟨h8, h9⟩ := Prod.mk.inj HQ
        have M9 := Lib.hid (show LeftP w0 (X :: G :: .raw ob (outO #[.string (bs zn), .int .i64 ed, .int .i64 wi, .int .i64 0, .bool false, .int .i64 0, .bool false, .bool false, .int .i64 0, .int .i64 0, .int .i64 0, .int .i64 0, .slice none 0 0, .int .i64 0, .int .i64 0, .int .i64 0, .int .i64 0, .bool false, .int .i64 0, .int .i64 0, .int .i64 0, .int .i64 0]) :: []) 0 b R12 (t15) by rw [← h8, ← h9]; exact M.out)
        rw [hb]
        clear M h1 hb HQ h8 h9
        go_wp2
        go_meet
        exact M9
    case rest =>
      clear M
      have M := hcut
      clear hcut
      generalize wc = t17 at *
      go_upto_region 8 with fail
      obtain ⟨R18, q18⟩ : ∃ r, r = (want [59] R12).2 := ⟨_, rfl⟩
      have Q18 := Lib.hid (show want [59] R12 = ((), R18) by rw [q18])
      obtain ⟨R19, q19⟩ : ∃ r, r = (want [100, 101, 108, 101, 116, 101] R18).2 := ⟨_, rfl⟩
      have Q19 := Lib.hid (show want [100, 101, 108, 101, 116, 101] R18 = ((), R19) by rw [q19])
      have H := m_expect (ss := [[59], [100, 101, 108, 101, 116, 101]]) (by simp) M.out (by decide) (by decide)
      have H := Lib.hid (show Calls Tryz.prog 40 #[.pointer (some ⟨b, 0, none⟩), .slice (some ⟨t17.heap.size, 0, none⟩) 2 2] ((t17).alloc (.cells #[.string ⟨#[59]⟩, .string ⟨#[100, 101, 108, 101, 116, 101]⟩] 9)) (fun x w' => x = .returned (.tuple #[]) ∧ LeftP w0 (X :: G :: .raw ob (outO #[.string (bs zn), .int .i64 ed, .int .i64 wi, .int .i64 0, .bool false, .int .i64 0, .bool false, .bool false, .int .i64 0, .int .i64 0, .int .i64 0, .int .i64 0, .slice none 0 0, .int .i64 0, .int .i64 0, .int .i64 0, .int .i64 0, .bool false, .int .i64 0, .int .i64 0, .int .i64 0, .int .i64 0]) :: []) 0 b R19 w') from by rw [q19, q18]; exact H)
      clear M q18 q19
      go_wp2_with (go_at_call 40; refine (H.out).mono ?_; rintro e20 v20 ⟨rfl, m⟩; refine Hid.out ?_)
      refine Lib.hid ?_
      have M := Lib.hid (show LeftP w0 (X :: G :: .raw ob (outO #[.string (bs zn), .int .i64 ed, .int .i64 wi, .int .i64 0, .bool false, .int .i64 0, .bool false, .bool false, .int .i64 0, .int .i64 0, .int .i64 0, .int .i64 0, .slice none 0 0, .int .i64 0, .int .i64 0, .int .i64 0, .int .i64 0, .bool false, .int .i64 0, .int .i64 0, .int .i64 0, .int .i64 0]) :: []) 0 b R19 (v20) from m)
      clear m H
      go_upto_region 9 with fail
      have H := m_one (row := 0) (T := deW) (by simp) M.out hE rfl (by decide) (by decide)
      obtain ⟨R21, q21⟩ : ∃ r, r = (one deW R19).2 := ⟨_, rfl⟩
      obtain ⟨z3, y21⟩ : ∃ z, z = (one deW R19).1 := ⟨_, rfl⟩
      have Q21 := Lib.hid (show one deW R19 = (z3, R21) by rw [q21, y21])
      rw [← q21, ← y21] at H
      have H := Lib.hid (show Calls Tryz.prog 42 #[.pointer (some ⟨b, 0, none⟩), .int .i64 0, .slice (some ⟨v20.heap.size, 0, none⟩) 3 3] ((v20).alloc (.cells #[.string ⟨#[110, 111]⟩, .string ⟨#[109, 97, 114, 107]⟩, .string ⟨#[121, 101, 115]⟩] 9)) (fun x w' => x = .returned (.int .i64 z3) ∧ LeftP w0 (X :: G :: .raw ob (outO #[.string (bs zn), .int .i64 ed, .int .i64 wi, .int .i64 0, .bool false, .int .i64 0, .bool false, .bool false, .int .i64 0, .int .i64 0, .int .i64 0, .int .i64 0, .slice none 0 0, .int .i64 0, .int .i64 0, .int .i64 0, .int .i64 0, .bool false, .int .i64 0, .int .i64 0, .int .i64 0, .int .i64 0]) :: []) 0 b R21 w') from H)
      clear M q21 y21
      go_wp2_with (go_at_call 42; refine (H.out).mono ?_; rintro e22 v22 ⟨rfl, m⟩; refine Hid.out ?_)
      refine Lib.hid ?_
      have M := Lib.hid (show LeftP w0 (X :: G :: .raw ob (outO #[.string (bs zn), .int .i64 ed, .int .i64 wi, .int .i64 0, .bool false, .int .i64 0, .bool false, .bool false, .int .i64 0, .int .i64 0, .int .i64 0, .int .i64 0, .slice none 0 0, .int .i64 0, .int .i64 0, .int .i64 0, .int .i64 0, .bool false, .int .i64 0, .int .i64 0, .int .i64 0, .int .i64 0]) :: []) 0 b R21 (v22) from m)
      clear m H
      have g1 := M.out.out_at (j := 2) rfl (by decide)
      have g2 : (v22).cell? ⟨ob, 3, none⟩ = some (.int .i64 0) := by rw [Lib.cell_of_heap g1]; rfl
      have g3 : (v22).frozen? ⟨ob, 3, none⟩ = false := Lib.frozen_of_heap g1 3
      clear g1
      have M := Lib.hid (show LeftP w0 (X :: G :: .raw ob (outO #[.string (bs zn), .int .i64 ed, .int .i64 wi, .int .i64 z3, .bool false, .int .i64 0, .bool false, .bool false, .int .i64 0, .int .i64 0, .int .i64 0, .int .i64 0, .slice none 0 0, .int .i64 0, .int .i64 0, .int .i64 0, .int .i64 0, .bool false, .int .i64 0, .int .i64 0, .int .i64 0, .int .i64 0]) :: []) 0 b R21 ((v22).setCell ⟨ob, 3, none⟩ (.int .i64 z3)) from M.out.out_set (j := 2) rfl (by decide) 3 _)
      go_upto_region 10 with fail
      clear g2 g3
      generalize (v22).setCell ⟨ob, 3, none⟩ (.int .i64 z3) = u23 at *
      obtain ⟨R24, q24⟩ : ∃ r, r = (want [59] R21).2 := ⟨_, rfl⟩
      have Q24 := Lib.hid (show want [59] R21 = ((), R24) by rw [q24])
      obtain ⟨R25, q25⟩ : ∃ r, r = (want [114, 101, 97, 99, 116] R24).2 := ⟨_, rfl⟩
      have Q25 := Lib.hid (show want [114, 101, 97, 99, 116] R24 = ((), R25) by rw [q25])
      have H := m_expect (ss := [[59], [114, 101, 97, 99, 116]]) (by simp) M.out (by decide) (by decide)
      have H := Lib.hid (show Calls Tryz.prog 40 #[.pointer (some ⟨b, 0, none⟩), .slice (some ⟨u23.heap.size, 0, none⟩) 2 2] ((u23).alloc (.cells #[.string ⟨#[59]⟩, .string ⟨#[114, 101, 97, 99, 116]⟩] 9)) (fun x w' => x = .returned (.tuple #[]) ∧ LeftP w0 (X :: G :: .raw ob (outO #[.string (bs zn), .int .i64 ed, .int .i64 wi, .int .i64 z3, .bool false, .int .i64 0, .bool false, .bool false, .int .i64 0, .int .i64 0, .int .i64 0, .int .i64 0, .slice none 0 0, .int .i64 0, .int .i64 0, .int .i64 0, .int .i64 0, .bool false, .int .i64 0, .int .i64 0, .int .i64 0, .int .i64 0]) :: []) 0 b R25 w') from by rw [q25, q24]; exact H)
      clear M q24 q25
      go_wp2_with (go_at_call 40; refine (H.out).mono ?_; rintro e26 v26 ⟨rfl, m⟩; refine Hid.out ?_)
      refine Lib.hid ?_
      have M := Lib.hid (show LeftP w0 (X :: G :: .raw ob (outO #[.string (bs zn), .int .i64 ed, .int .i64 wi, .int .i64 z3, .bool false, .int .i64 0, .bool false, .bool false, .int .i64 0, .int .i64 0, .int .i64 0, .int .i64 0, .slice none 0 0, .int .i64 0, .int .i64 0, .int .i64 0, .int .i64 0, .bool false, .int .i64 0, .int .i64 0, .int .i64 0, .int .i64 0]) :: []) 0 b R25 (v26) from m)
      clear m H
      go_upto_region 11 with fail
      have H := Lib.hid (m_decide (by simp) M.out hE)
      obtain ⟨R27, q27⟩ : ∃ r, r = (one yn R25).2 := ⟨_, rfl⟩
      obtain ⟨z4, y27⟩ : ∃ z, z = (one yn R25).1 := ⟨_, rfl⟩
      have Q27 := Lib.hid (show one yn R25 = (z4, R27) by rw [q27, y27])
      rw [← q27, ← y27] at H
      clear M q27 y27
      go_wp2_with (go_at_call 45; refine (H.out).mono ?_; rintro e28 v28 ⟨rfl, m⟩; refine Hid.out ?_)
      refine Lib.hid ?_
      have M := Lib.hid (show LeftP w0 (X :: G :: .raw ob (outO #[.string (bs zn), .int .i64 ed, .int .i64 wi, .int .i64 z3, .bool false, .int .i64 0, .bool false, .bool false, .int .i64 0, .int .i64 0, .int .i64 0, .int .i64 0, .slice none 0 0, .int .i64 0, .int .i64 0, .int .i64 0, .int .i64 0, .bool false, .int .i64 0, .int .i64 0, .int .i64 0, .int .i64 0]) :: []) 0 b R27 (v28) from m)
      clear m H
      have g1 := M.out.out_at (j := 2) rfl (by decide)
      have g2 : (v28).cell? ⟨ob, 4, none⟩ = some (.bool false) := by rw [Lib.cell_of_heap g1]; rfl
      have g3 : (v28).frozen? ⟨ob, 4, none⟩ = false := Lib.frozen_of_heap g1 4
      clear g1
      have M := Lib.hid (show LeftP w0 (X :: G :: .raw ob (outO #[.string (bs zn), .int .i64 ed, .int .i64 wi, .int .i64 z3, .bool (z4 == 1), .int .i64 0, .bool false, .bool false, .int .i64 0, .int .i64 0, .int .i64 0, .int .i64 0, .slice none 0 0, .int .i64 0, .int .i64 0, .int .i64 0, .int .i64 0, .bool false, .int .i64 0, .int .i64 0, .int .i64 0, .int .i64 0]) :: []) 0 b R27 ((v28).setCell ⟨ob, 4, none⟩ (.bool (z4 == 1))) from M.out.out_set (j := 2) rfl (by decide) 4 _)
      go_upto_region 12 with fail
      clear g2 g3
      generalize (v28).setCell ⟨ob, 4, none⟩ (.bool (z4 == 1)) = u29 at *
      obtain ⟨R30, q30⟩ : ∃ r, r = (want [59] R27).2 := ⟨_, rfl⟩
      have Q30 := Lib.hid (show want [59] R27 = ((), R30) by rw [q30])
      obtain ⟨R31, q31⟩ : ∃ r, r = (want [116, 104, 114, 101, 97, 100] R30).2 := ⟨_, rfl⟩
      have Q31 := Lib.hid (show want [116, 104, 114, 101, 97, 100] R30 = ((), R31) by rw [q31])
      have H := m_expect (ss := [[59], [116, 104, 114, 101, 97, 100]]) (by simp) M.out (by decide) (by decide)
      have H := Lib.hid (show Calls Tryz.prog 40 #[.pointer (some ⟨b, 0, none⟩), .slice (some ⟨u29.heap.size, 0, none⟩) 2 2] ((u29).alloc (.cells #[.string ⟨#[59]⟩, .string ⟨#[116, 104, 114, 101, 97, 100]⟩] 9)) (fun x w' => x = .returned (.tuple #[]) ∧ LeftP w0 (X :: G :: .raw ob (outO #[.string (bs zn), .int .i64 ed, .int .i64 wi, .int .i64 z3, .bool (z4 == 1), .int .i64 0, .bool false, .bool false, .int .i64 0, .int .i64 0, .int .i64 0, .int .i64 0, .slice none 0 0, .int .i64 0, .int .i64 0, .int .i64 0, .int .i64 0, .bool false, .int .i64 0, .int .i64 0, .int .i64 0, .int .i64 0]) :: []) 0 b R31 w') from by rw [q31, q30]; exact H)
      clear M q30 q31
      go_wp2_with (go_at_call 40; refine (H.out).mono ?_; rintro e32 v32 ⟨rfl, m⟩; refine Hid.out ?_)
      refine Lib.hid ?_
      have M := Lib.hid (show LeftP w0 (X :: G :: .raw ob (outO #[.string (bs zn), .int .i64 ed, .int .i64 wi, .int .i64 z3, .bool (z4 == 1), .int .i64 0, .bool false, .bool false, .int .i64 0, .int .i64 0, .int .i64 0, .int .i64 0, .slice none 0 0, .int .i64 0, .int .i64 0, .int .i64 0, .int .i64 0, .bool false, .int .i64 0, .int .i64 0, .int .i64 0, .int .i64 0]) :: []) 0 b R31 (v32) from m)
      clear m H
      go_upto_region 13 with fail
      have H := m_one (row := 1) (T := thW) (by simp) M.out hE rfl (by decide) (by decide)
      obtain ⟨R33, q33⟩ : ∃ r, r = (one thW R31).2 := ⟨_, rfl⟩
      obtain ⟨z5, y33⟩ : ∃ z, z = (one thW R31).1 := ⟨_, rfl⟩
      have Q33 := Lib.hid (show one thW R31 = (z5, R33) by rw [q33, y33])
      rw [← q33, ← y33] at H
      have H := Lib.hid (show Calls Tryz.prog 42 #[.pointer (some ⟨b, 0, none⟩), .int .i64 1, .slice (some ⟨v32.heap.size, 0, none⟩) 3 3] ((v32).alloc (.cells #[.string ⟨#[110, 111, 110, 101]⟩, .string ⟨#[102, 108, 97, 116]⟩, .string ⟨#[116, 114, 101, 101]⟩] 9)) (fun x w' => x = .returned (.int .i64 z5) ∧ LeftP w0 (X :: G :: .raw ob (outO #[.string (bs zn), .int .i64 ed, .int .i64 wi, .int .i64 z3, .bool (z4 == 1), .int .i64 0, .bool false, .bool false, .int .i64 0, .int .i64 0, .int .i64 0, .int .i64 0, .slice none 0 0, .int .i64 0, .int .i64 0, .int .i64 0, .int .i64 0, .bool false, .int .i64 0, .int .i64 0, .int .i64 0, .int .i64 0]) :: []) 0 b R33 w') from H)
      clear M q33 y33
      go_wp2_with (go_at_call 42; refine (H.out).mono ?_; rintro e34 v34 ⟨rfl, m⟩; refine Hid.out ?_)
      refine Lib.hid ?_
      have M := Lib.hid (show LeftP w0 (X :: G :: .raw ob (outO #[.string (bs zn), .int .i64 ed, .int .i64 wi, .int .i64 z3, .bool (z4 == 1), .int .i64 0, .bool false, .bool false, .int .i64 0, .int .i64 0, .int .i64 0, .int .i64 0, .slice none 0 0, .int .i64 0, .int .i64 0, .int .i64 0, .int .i64 0, .bool false, .int .i64 0, .int .i64 0, .int .i64 0, .int .i64 0]) :: []) 0 b R33 (v34) from m)
      clear m H
      have g1 := M.out.out_at (j := 2) rfl (by decide)
      have g2 : (v34).cell? ⟨ob, 5, none⟩ = some (.int .i64 0) := by rw [Lib.cell_of_heap g1]; rfl
      have g3 : (v34).frozen? ⟨ob, 5, none⟩ = false := Lib.frozen_of_heap g1 5
      clear g1
      have M := Lib.hid (show LeftP w0 (X :: G :: .raw ob (outO #[.string (bs zn), .int .i64 ed, .int .i64 wi, .int .i64 z3, .bool (z4 == 1), .int .i64 z5, .bool false, .bool false, .int .i64 0, .int .i64 0, .int .i64 0, .int .i64 0, .slice none 0 0, .int .i64 0, .int .i64 0, .int .i64 0, .int .i64 0, .bool false, .int .i64 0, .int .i64 0, .int .i64 0, .int .i64 0]) :: []) 0 b R33 ((v34).setCell ⟨ob, 5, none⟩ (.int .i64 z5)) from M.out.out_set (j := 2) rfl (by decide) 5 _)
      go_upto_region 14 with fail
      clear g2 g3
      generalize (v34).setCell ⟨ob, 5, none⟩ (.int .i64 z5) = u35 at *
      obtain ⟨R36, q36⟩ : ∃ r, r = (want [59] R33).2 := ⟨_, rfl⟩
      have Q36 := Lib.hid (show want [59] R33 = ((), R36) by rw [q36])
      obtain ⟨R37, q37⟩ : ∃ r, r = (want [113, 117, 111, 116, 101] R36).2 := ⟨_, rfl⟩
      have Q37 := Lib.hid (show want [113, 117, 111, 116, 101] R36 = ((), R37) by rw [q37])
      have H := m_expect (ss := [[59], [113, 117, 111, 116, 101]]) (by simp) M.out (by decide) (by decide)
      have H := Lib.hid (show Calls Tryz.prog 40 #[.pointer (some ⟨b, 0, none⟩), .slice (some ⟨u35.heap.size, 0, none⟩) 2 2] ((u35).alloc (.cells #[.string ⟨#[59]⟩, .string ⟨#[113, 117, 111, 116, 101]⟩] 9)) (fun x w' => x = .returned (.tuple #[]) ∧ LeftP w0 (X :: G :: .raw ob (outO #[.string (bs zn), .int .i64 ed, .int .i64 wi, .int .i64 z3, .bool (z4 == 1), .int .i64 z5, .bool false, .bool false, .int .i64 0, .int .i64 0, .int .i64 0, .int .i64 0, .slice none 0 0, .int .i64 0, .int .i64 0, .int .i64 0, .int .i64 0, .bool false, .int .i64 0, .int .i64 0, .int .i64 0, .int .i64 0]) :: []) 0 b R37 w') from by rw [q37, q36]; exact H)
      clear M q36 q37
      go_wp2_with (go_at_call 40; refine (H.out).mono ?_; rintro e38 v38 ⟨rfl, m⟩; refine Hid.out ?_)
      refine Lib.hid ?_
      have M := Lib.hid (show LeftP w0 (X :: G :: .raw ob (outO #[.string (bs zn), .int .i64 ed, .int .i64 wi, .int .i64 z3, .bool (z4 == 1), .int .i64 z5, .bool false, .bool false, .int .i64 0, .int .i64 0, .int .i64 0, .int .i64 0, .slice none 0 0, .int .i64 0, .int .i64 0, .int .i64 0, .int .i64 0, .bool false, .int .i64 0, .int .i64 0, .int .i64 0, .int .i64 0]) :: []) 0 b R37 (v38) from m)
      clear m H
      go_upto_region 15 with fail
      have H := Lib.hid (m_decide (by simp) M.out hE)
      obtain ⟨R39, q39⟩ : ∃ r, r = (one yn R37).2 := ⟨_, rfl⟩
      obtain ⟨z6, y39⟩ : ∃ z, z = (one yn R37).1 := ⟨_, rfl⟩
      have Q39 := Lib.hid (show one yn R37 = (z6, R39) by rw [q39, y39])
      rw [← q39, ← y39] at H
      clear M q39 y39
      go_wp2_with (go_at_call 45; refine (H.out).mono ?_; rintro e40 v40 ⟨rfl, m⟩; refine Hid.out ?_)
      refine Lib.hid ?_
      have M := Lib.hid (show LeftP w0 (X :: G :: .raw ob (outO #[.string (bs zn), .int .i64 ed, .int .i64 wi, .int .i64 z3, .bool (z4 == 1), .int .i64 z5, .bool false, .bool false, .int .i64 0, .int .i64 0, .int .i64 0, .int .i64 0, .slice none 0 0, .int .i64 0, .int .i64 0, .int .i64 0, .int .i64 0, .bool false, .int .i64 0, .int .i64 0, .int .i64 0, .int .i64 0]) :: []) 0 b R39 (v40) from m)
      clear m H
      have g1 := M.out.out_at (j := 2) rfl (by decide)
      have g2 : (v40).cell? ⟨ob, 6, none⟩ = some (.bool false) := by rw [Lib.cell_of_heap g1]; rfl
      have g3 : (v40).frozen? ⟨ob, 6, none⟩ = false := Lib.frozen_of_heap g1 6
      clear g1
      have M := Lib.hid (show LeftP w0 (X :: G :: .raw ob (outO #[.string (bs zn), .int .i64 ed, .int .i64 wi, .int .i64 z3, .bool (z4 == 1), .int .i64 z5, .bool (z6 == 1), .bool false, .int .i64 0, .int .i64 0, .int .i64 0, .int .i64 0, .slice none 0 0, .int .i64 0, .int .i64 0, .int .i64 0, .int .i64 0, .bool false, .int .i64 0, .int .i64 0, .int .i64 0, .int .i64 0]) :: []) 0 b R39 ((v40).setCell ⟨ob, 6, none⟩ (.bool (z6 == 1))) from M.out.out_set (j := 2) rfl (by decide) 6 _)
      go_upto_region 16 with fail
      clear g2 g3
      generalize (v40).setCell ⟨ob, 6, none⟩ (.bool (z6 == 1)) = u41 at *
      obtain ⟨R42, q42⟩ : ∃ r, r = (want [59] R39).2 := ⟨_, rfl⟩
      have Q42 := Lib.hid (show want [59] R39 = ((), R42) by rw [q42])
      obtain ⟨R43, q43⟩ : ∃ r, r = (want [109, 101, 110, 116, 105, 111, 110] R42).2 := ⟨_, rfl⟩
      have Q43 := Lib.hid (show want [109, 101, 110, 116, 105, 111, 110] R42 = ((), R43) by rw [q43])
      have H := m_expect (ss := [[59], [109, 101, 110, 116, 105, 111, 110]]) (by simp) M.out (by decide) (by decide)
      have H := Lib.hid (show Calls Tryz.prog 40 #[.pointer (some ⟨b, 0, none⟩), .slice (some ⟨u41.heap.size, 0, none⟩) 2 2] ((u41).alloc (.cells #[.string ⟨#[59]⟩, .string ⟨#[109, 101, 110, 116, 105, 111, 110]⟩] 9)) (fun x w' => x = .returned (.tuple #[]) ∧ LeftP w0 (X :: G :: .raw ob (outO #[.string (bs zn), .int .i64 ed, .int .i64 wi, .int .i64 z3, .bool (z4 == 1), .int .i64 z5, .bool (z6 == 1), .bool false, .int .i64 0, .int .i64 0, .int .i64 0, .int .i64 0, .slice none 0 0, .int .i64 0, .int .i64 0, .int .i64 0, .int .i64 0, .bool false, .int .i64 0, .int .i64 0, .int .i64 0, .int .i64 0]) :: []) 0 b R43 w') from by rw [q43, q42]; exact H)
      clear M q42 q43
      go_wp2_with (go_at_call 40; refine (H.out).mono ?_; rintro e44 v44 ⟨rfl, m⟩; refine Hid.out ?_)
      refine Lib.hid ?_
      have M := Lib.hid (show LeftP w0 (X :: G :: .raw ob (outO #[.string (bs zn), .int .i64 ed, .int .i64 wi, .int .i64 z3, .bool (z4 == 1), .int .i64 z5, .bool (z6 == 1), .bool false, .int .i64 0, .int .i64 0, .int .i64 0, .int .i64 0, .slice none 0 0, .int .i64 0, .int .i64 0, .int .i64 0, .int .i64 0, .bool false, .int .i64 0, .int .i64 0, .int .i64 0, .int .i64 0]) :: []) 0 b R43 (v44) from m)
      clear m H
      go_upto_region 17 with fail
      have H := Lib.hid (m_decide (by simp) M.out hE)
      obtain ⟨R45, q45⟩ : ∃ r, r = (one yn R43).2 := ⟨_, rfl⟩
      obtain ⟨z7, y45⟩ : ∃ z, z = (one yn R43).1 := ⟨_, rfl⟩
      have Q45 := Lib.hid (show one yn R43 = (z7, R45) by rw [q45, y45])
      rw [← q45, ← y45] at H
      clear M q45 y45
      go_wp2_with (go_at_call 45; refine (H.out).mono ?_; rintro e46 v46 ⟨rfl, m⟩; refine Hid.out ?_)
      refine Lib.hid ?_
      have M := Lib.hid (show LeftP w0 (X :: G :: .raw ob (outO #[.string (bs zn), .int .i64 ed, .int .i64 wi, .int .i64 z3, .bool (z4 == 1), .int .i64 z5, .bool (z6 == 1), .bool false, .int .i64 0, .int .i64 0, .int .i64 0, .int .i64 0, .slice none 0 0, .int .i64 0, .int .i64 0, .int .i64 0, .int .i64 0, .bool false, .int .i64 0, .int .i64 0, .int .i64 0, .int .i64 0]) :: []) 0 b R45 (v46) from m)
      clear m H
      have g1 := M.out.out_at (j := 2) rfl (by decide)
      have g2 : (v46).cell? ⟨ob, 7, none⟩ = some (.bool false) := by rw [Lib.cell_of_heap g1]; rfl
      have g3 : (v46).frozen? ⟨ob, 7, none⟩ = false := Lib.frozen_of_heap g1 7
      clear g1
      have M := Lib.hid (show LeftP w0 (X :: G :: .raw ob (outO #[.string (bs zn), .int .i64 ed, .int .i64 wi, .int .i64 z3, .bool (z4 == 1), .int .i64 z5, .bool (z6 == 1), .bool (z7 == 1), .int .i64 0, .int .i64 0, .int .i64 0, .int .i64 0, .slice none 0 0, .int .i64 0, .int .i64 0, .int .i64 0, .int .i64 0, .bool false, .int .i64 0, .int .i64 0, .int .i64 0, .int .i64 0]) :: []) 0 b R45 ((v46).setCell ⟨ob, 7, none⟩ (.bool (z7 == 1))) from M.out.out_set (j := 2) rfl (by decide) 7 _)
      go_upto_region 18 with fail
      clear g2 g3
      generalize (v46).setCell ⟨ob, 7, none⟩ (.bool (z7 == 1)) = u47 at *
      obtain ⟨R48, q48⟩ : ∃ r, r = (want [59] R45).2 := ⟨_, rfl⟩
      have Q48 := Lib.hid (show want [59] R45 = ((), R48) by rw [q48])
      obtain ⟨R49, q49⟩ : ∃ r, r = (want [115, 105, 122, 101] R48).2 := ⟨_, rfl⟩
      have Q49 := Lib.hid (show want [115, 105, 122, 101] R48 = ((), R49) by rw [q49])
      have H := m_expect (ss := [[59], [115, 105, 122, 101]]) (by simp) M.out (by decide) (by decide)
      have H := Lib.hid (show Calls Tryz.prog 40 #[.pointer (some ⟨b, 0, none⟩), .slice (some ⟨u47.heap.size, 0, none⟩) 2 2] ((u47).alloc (.cells #[.string ⟨#[59]⟩, .string ⟨#[115, 105, 122, 101]⟩] 9)) (fun x w' => x = .returned (.tuple #[]) ∧ LeftP w0 (X :: G :: .raw ob (outO #[.string (bs zn), .int .i64 ed, .int .i64 wi, .int .i64 z3, .bool (z4 == 1), .int .i64 z5, .bool (z6 == 1), .bool (z7 == 1), .int .i64 0, .int .i64 0, .int .i64 0, .int .i64 0, .slice none 0 0, .int .i64 0, .int .i64 0, .int .i64 0, .int .i64 0, .bool false, .int .i64 0, .int .i64 0, .int .i64 0, .int .i64 0]) :: []) 0 b R49 w') from by rw [q49, q48]; exact H)
      clear M q48 q49
      go_wp2_with (go_at_call 40; refine (H.out).mono ?_; rintro e50 v50 ⟨rfl, m⟩; refine Hid.out ?_)
      refine Lib.hid ?_
      have M := Lib.hid (show LeftP w0 (X :: G :: .raw ob (outO #[.string (bs zn), .int .i64 ed, .int .i64 wi, .int .i64 z3, .bool (z4 == 1), .int .i64 z5, .bool (z6 == 1), .bool (z7 == 1), .int .i64 0, .int .i64 0, .int .i64 0, .int .i64 0, .slice none 0 0, .int .i64 0, .int .i64 0, .int .i64 0, .int .i64 0, .bool false, .int .i64 0, .int .i64 0, .int .i64 0, .int .i64 0]) :: []) 0 b R49 (v50) from m)
      clear m H
      go_upto_region 19 with fail
      have H := Lib.hid (m_number (by simp) M.out 0)
      obtain ⟨R51, q51⟩ : ∃ r, r = (number 0 R49).2 := ⟨_, rfl⟩
      obtain ⟨z8, y51⟩ : ∃ z, z = (number 0 R49).1 := ⟨_, rfl⟩
      have Q51 := Lib.hid (show number 0 R49 = (z8, R51) by rw [q51, y51])
      rw [← q51, ← y51] at H
      clear M q51 y51
      go_wp2_with (go_at_call 44; refine (H.out).mono ?_; rintro e52 v52 ⟨rfl, m⟩; refine Hid.out ?_)
      refine Lib.hid ?_
      have M := Lib.hid (show LeftP w0 (X :: G :: .raw ob (outO #[.string (bs zn), .int .i64 ed, .int .i64 wi, .int .i64 z3, .bool (z4 == 1), .int .i64 z5, .bool (z6 == 1), .bool (z7 == 1), .int .i64 0, .int .i64 0, .int .i64 0, .int .i64 0, .slice none 0 0, .int .i64 0, .int .i64 0, .int .i64 0, .int .i64 0, .bool false, .int .i64 0, .int .i64 0, .int .i64 0, .int .i64 0]) :: []) 0 b R51 (v52) from m)
      clear m H
      have g1 := M.out.out_at (j := 2) rfl (by decide)
      have g2 : (v52).cell? ⟨ob, 8, none⟩ = some (.int .i64 0) := by rw [Lib.cell_of_heap g1]; rfl
      have g3 : (v52).frozen? ⟨ob, 8, none⟩ = false := Lib.frozen_of_heap g1 8
      clear g1
      have M := Lib.hid (show LeftP w0 (X :: G :: .raw ob (outO #[.string (bs zn), .int .i64 ed, .int .i64 wi, .int .i64 z3, .bool (z4 == 1), .int .i64 z5, .bool (z6 == 1), .bool (z7 == 1), .int .i64 z8, .int .i64 0, .int .i64 0, .int .i64 0, .slice none 0 0, .int .i64 0, .int .i64 0, .int .i64 0, .int .i64 0, .bool false, .int .i64 0, .int .i64 0, .int .i64 0, .int .i64 0]) :: []) 0 b R51 ((v52).setCell ⟨ob, 8, none⟩ (.int .i64 z8)) from M.out.out_set (j := 2) rfl (by decide) 8 _)
      go_upto_region 20 with fail
      clear g2 g3
      generalize (v52).setCell ⟨ob, 8, none⟩ (.int .i64 z8) = u53 at *
      obtain ⟨R54, q54⟩ : ∃ r, r = (want [112, 97, 114, 116, 115] R51).2 := ⟨_, rfl⟩
      have Q54 := Lib.hid (show want [112, 97, 114, 116, 115] R51 = ((), R54) by rw [q54])
      have H := m_expect (ss := [[112, 97, 114, 116, 115]]) (by simp) M.out (by decide) (by decide)
      have H := Lib.hid (show Calls Tryz.prog 40 #[.pointer (some ⟨b, 0, none⟩), .slice (some ⟨u53.heap.size, 0, none⟩) 1 1] ((u53).alloc (.cells #[.string ⟨#[112, 97, 114, 116, 115]⟩] 9)) (fun x w' => x = .returned (.tuple #[]) ∧ LeftP w0 (X :: G :: .raw ob (outO #[.string (bs zn), .int .i64 ed, .int .i64 wi, .int .i64 z3, .bool (z4 == 1), .int .i64 z5, .bool (z6 == 1), .bool (z7 == 1), .int .i64 z8, .int .i64 0, .int .i64 0, .int .i64 0, .slice none 0 0, .int .i64 0, .int .i64 0, .int .i64 0, .int .i64 0, .bool false, .int .i64 0, .int .i64 0, .int .i64 0, .int .i64 0]) :: []) 0 b R54 w') from by rw [q54]; exact H)
      clear M q54
      go_wp2_with (go_at_call 40; refine (H.out).mono ?_; rintro e55 v55 ⟨rfl, m⟩; refine Hid.out ?_)
      refine Lib.hid ?_
      have M := Lib.hid (show LeftP w0 (X :: G :: .raw ob (outO #[.string (bs zn), .int .i64 ed, .int .i64 wi, .int .i64 z3, .bool (z4 == 1), .int .i64 z5, .bool (z6 == 1), .bool (z7 == 1), .int .i64 z8, .int .i64 0, .int .i64 0, .int .i64 0, .slice none 0 0, .int .i64 0, .int .i64 0, .int .i64 0, .int .i64 0, .bool false, .int .i64 0, .int .i64 0, .int .i64 0, .int .i64 0]) :: []) 0 b R54 (v55) from m)
      clear m H
      go_upto_region 21 with fail
      have H := Lib.hid (m_number (by simp) M.out 0)
      obtain ⟨R56, q56⟩ : ∃ r, r = (number 0 R54).2 := ⟨_, rfl⟩
      obtain ⟨z9, y56⟩ : ∃ z, z = (number 0 R54).1 := ⟨_, rfl⟩
      have Q56 := Lib.hid (show number 0 R54 = (z9, R56) by rw [q56, y56])
      rw [← q56, ← y56] at H
      clear M q56 y56
      go_wp2_with (go_at_call 44; refine (H.out).mono ?_; rintro e57 v57 ⟨rfl, m⟩; refine Hid.out ?_)
      refine Lib.hid ?_
      have M := Lib.hid (show LeftP w0 (X :: G :: .raw ob (outO #[.string (bs zn), .int .i64 ed, .int .i64 wi, .int .i64 z3, .bool (z4 == 1), .int .i64 z5, .bool (z6 == 1), .bool (z7 == 1), .int .i64 z8, .int .i64 0, .int .i64 0, .int .i64 0, .slice none 0 0, .int .i64 0, .int .i64 0, .int .i64 0, .int .i64 0, .bool false, .int .i64 0, .int .i64 0, .int .i64 0, .int .i64 0]) :: []) 0 b R56 (v57) from m)
      clear m H
      have g1 := M.out.out_at (j := 2) rfl (by decide)
      have g2 : (v57).cell? ⟨ob, 9, none⟩ = some (.int .i64 0) := by rw [Lib.cell_of_heap g1]; rfl
      have g3 : (v57).frozen? ⟨ob, 9, none⟩ = false := Lib.frozen_of_heap g1 9
      clear g1
      have M := Lib.hid (show LeftP w0 (X :: G :: .raw ob (outO #[.string (bs zn), .int .i64 ed, .int .i64 wi, .int .i64 z3, .bool (z4 == 1), .int .i64 z5, .bool (z6 == 1), .bool (z7 == 1), .int .i64 z8, .int .i64 z9, .int .i64 0, .int .i64 0, .slice none 0 0, .int .i64 0, .int .i64 0, .int .i64 0, .int .i64 0, .bool false, .int .i64 0, .int .i64 0, .int .i64 0, .int .i64 0]) :: []) 0 b R56 ((v57).setCell ⟨ob, 9, none⟩ (.int .i64 z9)) from M.out.out_set (j := 2) rfl (by decide) 9 _)
      go_upto_region 22 with fail
      clear g2 g3
      generalize (v57).setCell ⟨ob, 9, none⟩ (.int .i64 z9) = u58 at *
      obtain ⟨R59, q59⟩ : ∃ r, r = (want [59] R56).2 := ⟨_, rfl⟩
      have Q59 := Lib.hid (show want [59] R56 = ((), R59) by rw [q59])
      have H := m_expect (ss := [[59]]) (by simp) M.out (by decide) (by decide)
      have H := Lib.hid (show Calls Tryz.prog 40 #[.pointer (some ⟨b, 0, none⟩), .slice (some ⟨u58.heap.size, 0, none⟩) 1 1] ((u58).alloc (.cells #[.string ⟨#[59]⟩] 9)) (fun x w' => x = .returned (.tuple #[]) ∧ LeftP w0 (X :: G :: .raw ob (outO #[.string (bs zn), .int .i64 ed, .int .i64 wi, .int .i64 z3, .bool (z4 == 1), .int .i64 z5, .bool (z6 == 1), .bool (z7 == 1), .int .i64 z8, .int .i64 z9, .int .i64 0, .int .i64 0, .slice none 0 0, .int .i64 0, .int .i64 0, .int .i64 0, .int .i64 0, .bool false, .int .i64 0, .int .i64 0, .int .i64 0, .int .i64 0]) :: []) 0 b R59 w') from by rw [q59]; exact H)
      clear M q59
      go_wp2_with (go_at_call 40; refine (H.out).mono ?_; rintro e60 v60 ⟨rfl, m⟩; refine Hid.out ?_)
      refine Lib.hid ?_
      have M := Lib.hid (show LeftP w0 (X :: G :: .raw ob (outO #[.string (bs zn), .int .i64 ed, .int .i64 wi, .int .i64 z3, .bool (z4 == 1), .int .i64 z5, .bool (z6 == 1), .bool (z7 == 1), .int .i64 z8, .int .i64 z9, .int .i64 0, .int .i64 0, .slice none 0 0, .int .i64 0, .int .i64 0, .int .i64 0, .int .i64 0, .bool false, .int .i64 0, .int .i64 0, .int .i64 0, .int .i64 0]) :: []) 0 b R59 (v60) from m)
      clear m H
      go_upto_region 23 with fail
      obtain ⟨R61, hf⟩ : ∃ q, q = (sFiles R59).2 := ⟨_, rfl⟩
      have QF := Lib.hid (show sFiles R59 = ((sFiles R59).1, R61) by rw [hf])
      clear hf
      obtain ⟨bf, hbf⟩ : ∃ z, z = isO [102, 105, 108, 101, 115] (hdR R59) := ⟨_, rfl⟩
      obtain ⟨R62, hrb⟩ : ∃ z, z = acc [102, 105, 108, 101, 115] R59 := ⟨_, rfl⟩
      have H := m_accept (s := [102, 105, 108, 101, 115]) (by simp) M.out (by decide)
      rw [← hbf, ← hrb] at H
      have H := Lib.hid H
      have HBF := Lib.hid hbf
      have HRB2 := Lib.hid hrb
      clear M hbf hrb
      go_wp2_with (go_at_call 43; refine (H.out).mono ?_; rintro e63 v63 ⟨rfl, m⟩; refine Hid.out ?_)
      refine Lib.hid ?_
      have M := Lib.hid (show LeftP w0 (X :: G :: .raw ob (outO #[.string (bs zn), .int .i64 ed, .int .i64 wi, .int .i64 z3, .bool (z4 == 1), .int .i64 z5, .bool (z6 == 1), .bool (z7 == 1), .int .i64 z8, .int .i64 z9, .int .i64 0, .int .i64 0, .slice none 0 0, .int .i64 0, .int .i64 0, .int .i64 0, .int .i64 0, .bool false, .int .i64 0, .int .i64 0, .int .i64 0, .int .i64 0]) :: []) 0 b R62 (v63) from m)
      clear m H
      go_upto_if 75 with fail
      go_cut [75] from 76 to 93 (fun _ wx => ∃ (ff fb : Int) (tv : Value) (xs : List S), Hid (isOk R61 = true → (sFiles R59).1 = (ff, fb, xs)) ∧ Hid (LeftP w0 (X :: G :: .raw ob (outO #[.string (bs zn), .int .i64 ed, .int .i64 wi, .int .i64 z3, .bool (z4 == 1), .int .i64 z5, .bool (z6 == 1), .bool (z7 == 1), .int .i64 z8, .int .i64 z9, .int .i64 ff, .int .i64 fb, tv, .int .i64 0, .int .i64 0, .int .i64 0, .int .i64 0, .bool false, .int .i64 0, .int .i64 0, .int .i64 0, .int .i64 0]) :: [rowT tv xs]) 0 b R61 wx))
      case first =>
        by_cases h1 : bf = true
        · have HO := Lib.hid (HBF.out.symm.trans h1)
          have HK := sFiles_yes HO.out
          have h7 := HRB2.out
          rw [acc_yes HO.out] at h7
          rw [← h7] at HK
          have HK := Lib.hid HK
          rw [h1]
          clear h1 h7
          have H := Lib.hid (m_number (by simp) M.out 1)
          obtain ⟨R64, q64⟩ : ∃ r, r = (number 1 R62).2 := ⟨_, rfl⟩
          obtain ⟨zf, y64⟩ : ∃ z, z = (number 1 R62).1 := ⟨_, rfl⟩
          have Q64 := Lib.hid (show number 1 R62 = (zf, R64) by rw [q64, y64])
          rw [← q64, ← y64] at H
          clear M q64 y64
          go_wp2_with (go_at_call 44; refine (H.out).mono ?_; rintro e65 v65 ⟨rfl, m⟩; refine Hid.out ?_)
          refine Lib.hid ?_
          have M := Lib.hid (show LeftP w0 (X :: G :: .raw ob (outO #[.string (bs zn), .int .i64 ed, .int .i64 wi, .int .i64 z3, .bool (z4 == 1), .int .i64 z5, .bool (z6 == 1), .bool (z7 == 1), .int .i64 z8, .int .i64 z9, .int .i64 0, .int .i64 0, .slice none 0 0, .int .i64 0, .int .i64 0, .int .i64 0, .int .i64 0, .bool false, .int .i64 0, .int .i64 0, .int .i64 0, .int .i64 0]) :: []) 0 b R64 (v65) from m)
          clear m H
          have g1 := M.out.out_at (j := 2) rfl (by decide)
          have g2 : (v65).cell? ⟨ob, 10, none⟩ = some (.int .i64 0) := by rw [Lib.cell_of_heap g1]; rfl
          have g3 : (v65).frozen? ⟨ob, 10, none⟩ = false := Lib.frozen_of_heap g1 10
          clear g1
          have M := Lib.hid (show LeftP w0 (X :: G :: .raw ob (outO #[.string (bs zn), .int .i64 ed, .int .i64 wi, .int .i64 z3, .bool (z4 == 1), .int .i64 z5, .bool (z6 == 1), .bool (z7 == 1), .int .i64 z8, .int .i64 z9, .int .i64 zf, .int .i64 0, .slice none 0 0, .int .i64 0, .int .i64 0, .int .i64 0, .int .i64 0, .bool false, .int .i64 0, .int .i64 0, .int .i64 0, .int .i64 0]) :: []) 0 b R64 ((v65).setCell ⟨ob, 10, none⟩ (.int .i64 zf)) from M.out.out_set (j := 2) rfl (by decide) 10 _)
          go_upto_region 25 with fail
          clear g2 g3
          generalize (v65).setCell ⟨ob, 10, none⟩ (.int .i64 zf) = u66 at *
          obtain ⟨R67, q67⟩ : ∃ r, r = (want [98, 121, 116, 101, 115] R64).2 := ⟨_, rfl⟩
          have Q67 := Lib.hid (show want [98, 121, 116, 101, 115] R64 = ((), R67) by rw [q67])
          have H := m_expect (ss := [[98, 121, 116, 101, 115]]) (by simp) M.out (by decide) (by decide)
          have H := Lib.hid (show Calls Tryz.prog 40 #[.pointer (some ⟨b, 0, none⟩), .slice (some ⟨u66.heap.size, 0, none⟩) 1 1] ((u66).alloc (.cells #[.string ⟨#[98, 121, 116, 101, 115]⟩] 9)) (fun x w' => x = .returned (.tuple #[]) ∧ LeftP w0 (X :: G :: .raw ob (outO #[.string (bs zn), .int .i64 ed, .int .i64 wi, .int .i64 z3, .bool (z4 == 1), .int .i64 z5, .bool (z6 == 1), .bool (z7 == 1), .int .i64 z8, .int .i64 z9, .int .i64 zf, .int .i64 0, .slice none 0 0, .int .i64 0, .int .i64 0, .int .i64 0, .int .i64 0, .bool false, .int .i64 0, .int .i64 0, .int .i64 0, .int .i64 0]) :: []) 0 b R67 w') from by rw [q67]; exact H)
          clear M q67
          go_wp2_with (go_at_call 40; refine (H.out).mono ?_; rintro e68 v68 ⟨rfl, m⟩; refine Hid.out ?_)
          refine Lib.hid ?_
          have M := Lib.hid (show LeftP w0 (X :: G :: .raw ob (outO #[.string (bs zn), .int .i64 ed, .int .i64 wi, .int .i64 z3, .bool (z4 == 1), .int .i64 z5, .bool (z6 == 1), .bool (z7 == 1), .int .i64 z8, .int .i64 z9, .int .i64 zf, .int .i64 0, .slice none 0 0, .int .i64 0, .int .i64 0, .int .i64 0, .int .i64 0, .bool false, .int .i64 0, .int .i64 0, .int .i64 0, .int .i64 0]) :: []) 0 b R67 (v68) from m)
          clear m H
          go_upto_region 26 with fail
          have H := Lib.hid (m_number (by simp) M.out 0)
          obtain ⟨R69, q69⟩ : ∃ r, r = (number 0 R67).2 := ⟨_, rfl⟩
          obtain ⟨zb, y69⟩ : ∃ z, z = (number 0 R67).1 := ⟨_, rfl⟩
          have Q69 := Lib.hid (show number 0 R67 = (zb, R69) by rw [q69, y69])
          rw [← q69, ← y69] at H
          clear M q69 y69
          go_wp2_with (go_at_call 44; refine (H.out).mono ?_; rintro e70 v70 ⟨rfl, m⟩; refine Hid.out ?_)
          refine Lib.hid ?_
          have M := Lib.hid (show LeftP w0 (X :: G :: .raw ob (outO #[.string (bs zn), .int .i64 ed, .int .i64 wi, .int .i64 z3, .bool (z4 == 1), .int .i64 z5, .bool (z6 == 1), .bool (z7 == 1), .int .i64 z8, .int .i64 z9, .int .i64 zf, .int .i64 0, .slice none 0 0, .int .i64 0, .int .i64 0, .int .i64 0, .int .i64 0, .bool false, .int .i64 0, .int .i64 0, .int .i64 0, .int .i64 0]) :: []) 0 b R69 (v70) from m)
          clear m H
          have g1 := M.out.out_at (j := 2) rfl (by decide)
          have g2 : (v70).cell? ⟨ob, 11, none⟩ = some (.int .i64 0) := by rw [Lib.cell_of_heap g1]; rfl
          have g3 : (v70).frozen? ⟨ob, 11, none⟩ = false := Lib.frozen_of_heap g1 11
          clear g1
          have M := Lib.hid (show LeftP w0 (X :: G :: .raw ob (outO #[.string (bs zn), .int .i64 ed, .int .i64 wi, .int .i64 z3, .bool (z4 == 1), .int .i64 z5, .bool (z6 == 1), .bool (z7 == 1), .int .i64 z8, .int .i64 z9, .int .i64 zf, .int .i64 zb, .slice none 0 0, .int .i64 0, .int .i64 0, .int .i64 0, .int .i64 0, .bool false, .int .i64 0, .int .i64 0, .int .i64 0, .int .i64 0]) :: []) 0 b R69 ((v70).setCell ⟨ob, 11, none⟩ (.int .i64 zb)) from M.out.out_set (j := 2) rfl (by decide) 11 _)
          go_upto_region 27 with fail
          clear g2 g3
          generalize (v70).setCell ⟨ob, 11, none⟩ (.int .i64 zb) = u71 at *
          obtain ⟨R72, q72⟩ : ∃ r, r = (want [116, 121, 112, 101, 115] R69).2 := ⟨_, rfl⟩
          have Q72 := Lib.hid (show want [116, 121, 112, 101, 115] R69 = ((), R72) by rw [q72])
          have H := m_expect (ss := [[116, 121, 112, 101, 115]]) (by simp) M.out (by decide) (by decide)
          have H := Lib.hid (show Calls Tryz.prog 40 #[.pointer (some ⟨b, 0, none⟩), .slice (some ⟨u71.heap.size, 0, none⟩) 1 1] ((u71).alloc (.cells #[.string ⟨#[116, 121, 112, 101, 115]⟩] 9)) (fun x w' => x = .returned (.tuple #[]) ∧ LeftP w0 (X :: G :: .raw ob (outO #[.string (bs zn), .int .i64 ed, .int .i64 wi, .int .i64 z3, .bool (z4 == 1), .int .i64 z5, .bool (z6 == 1), .bool (z7 == 1), .int .i64 z8, .int .i64 z9, .int .i64 zf, .int .i64 zb, .slice none 0 0, .int .i64 0, .int .i64 0, .int .i64 0, .int .i64 0, .bool false, .int .i64 0, .int .i64 0, .int .i64 0, .int .i64 0]) :: []) 0 b R72 w') from by rw [q72]; exact H)
          clear M q72
          go_wp2_with (go_at_call 40; refine (H.out).mono ?_; rintro e73 v73 ⟨rfl, m⟩; refine Hid.out ?_)
          refine Lib.hid ?_
          have M := Lib.hid (show LeftP w0 (X :: G :: .raw ob (outO #[.string (bs zn), .int .i64 ed, .int .i64 wi, .int .i64 z3, .bool (z4 == 1), .int .i64 z5, .bool (z6 == 1), .bool (z7 == 1), .int .i64 z8, .int .i64 z9, .int .i64 zf, .int .i64 zb, .slice none 0 0, .int .i64 0, .int .i64 0, .int .i64 0, .int .i64 0, .bool false, .int .i64 0, .int .i64 0, .int .i64 0, .int .i64 0]) :: []) 0 b R72 (v73) from m)
          clear m H
          go_upto_region 28 with fail
          obtain ⟨R74, q74⟩ : ∃ r, r = (types 19 (name R72).2).2 := ⟨_, rfl⟩
          have H := m_types (by simp) M.out
          rw [← q74] at H
          have QT := Lib.hid q74
          have H := Lib.hid H
          clear M q74
          go_wp2_with (go_at_call 46; refine (H.out).mono ?_; rintro e74 v74 ⟨tv, xs, rfl, hok, m⟩; refine Hid.out ?_)
          refine Lib.hid ?_
          have M := Lib.hid (show LeftP w0 (X :: G :: .raw ob (outO #[.string (bs zn), .int .i64 ed, .int .i64 wi, .int .i64 z3, .bool (z4 == 1), .int .i64 z5, .bool (z6 == 1), .bool (z7 == 1), .int .i64 z8, .int .i64 z9, .int .i64 zf, .int .i64 zb, .slice none 0 0, .int .i64 0, .int .i64 0, .int .i64 0, .int .i64 0, .bool false, .int .i64 0, .int .i64 0, .int .i64 0, .int .i64 0]) :: [rowT tv xs]) 0 b R74 (v74) from m)
          have HOK := Lib.hid hok
          clear m H hok
          obtain ⟨_, ta, tc, htv⟩ := M.out.tx (j := 3) rfl (by decide)
          subst htv
          have g1 := M.out.out_at (j := 2) rfl (by decide)
          have g2 : (v74).cell? ⟨ob, 12, none⟩ = some (.slice none 0 0) := by rw [Lib.cell_of_heap g1]; rfl
          have g3 : (v74).frozen? ⟨ob, 12, none⟩ = false := Lib.frozen_of_heap g1 12
          clear g1
          have M := Lib.hid (show LeftP w0 (X :: G :: .raw ob (outO #[.string (bs zn), .int .i64 ed, .int .i64 wi, .int .i64 z3, .bool (z4 == 1), .int .i64 z5, .bool (z6 == 1), .bool (z7 == 1), .int .i64 z8, .int .i64 z9, .int .i64 zf, .int .i64 zb, .slice ta xs.length tc, .int .i64 0, .int .i64 0, .int .i64 0, .int .i64 0, .bool false, .int .i64 0, .int .i64 0, .int .i64 0, .int .i64 0]) :: [rowT (.slice ta xs.length tc) xs]) 0 b R74 ((v74).setCell ⟨ob, 12, none⟩ (.slice ta xs.length tc)) from M.out.out_set (j := 2) rfl (by decide) 12 _)
          go_upto_region 29 with fail
          clear g2 g3
          generalize (v74).setCell ⟨ob, 12, none⟩ (.slice ta xs.length tc) = u75 at *
          obtain ⟨R76, q76⟩ : ∃ r, r = (want [59] R74).2 := ⟨_, rfl⟩
          have Q76 := Lib.hid (show want [59] R74 = ((), R76) by rw [q76])
          have H := m_expect (ss := [[59]]) (by simp) M.out (by decide) (by decide)
          have H := Lib.hid (show Calls Tryz.prog 40 #[.pointer (some ⟨b, 0, none⟩), .slice (some ⟨u75.heap.size, 0, none⟩) 1 1] ((u75).alloc (.cells #[.string ⟨#[59]⟩] 9)) (fun x w' => x = .returned (.tuple #[]) ∧ LeftP w0 (X :: G :: .raw ob (outO #[.string (bs zn), .int .i64 ed, .int .i64 wi, .int .i64 z3, .bool (z4 == 1), .int .i64 z5, .bool (z6 == 1), .bool (z7 == 1), .int .i64 z8, .int .i64 z9, .int .i64 zf, .int .i64 zb, .slice ta xs.length tc, .int .i64 0, .int .i64 0, .int .i64 0, .int .i64 0, .bool false, .int .i64 0, .int .i64 0, .int .i64 0, .int .i64 0]) :: [rowT (.slice ta xs.length tc) xs]) 0 b R76 w') from by rw [q76]; exact H)
          clear M q76
          go_wp2_with (go_at_call 40; refine (H.out).mono ?_; rintro e77 v77 ⟨rfl, m⟩; refine Hid.out ?_)
          refine Lib.hid ?_
          have M := Lib.hid (show LeftP w0 (X :: G :: .raw ob (outO #[.string (bs zn), .int .i64 ed, .int .i64 wi, .int .i64 z3, .bool (z4 == 1), .int .i64 z5, .bool (z6 == 1), .bool (z7 == 1), .int .i64 z8, .int .i64 z9, .int .i64 zf, .int .i64 zb, .slice ta xs.length tc, .int .i64 0, .int .i64 0, .int .i64 0, .int .i64 0, .bool false, .int .i64 0, .int .i64 0, .int .i64 0, .int .i64 0]) :: [rowT (.slice ta xs.length tc) xs]) 0 b R76 (v77) from m)
          clear m H
          have h5 := HK.out
          rw [Q64.out] at h5
          simp only [Q67.out, Q69.out, Q72.out, ← QT.out, Q76.out] at h5
          have h9 : R76 = R61 := by have := QF.out; rw [h5] at this; exact (Prod.mk.inj this).2
          have HK5 := Lib.hid h5
          have HQE := Lib.hid Q76.out
          clear h5
          go_wp2
          go_meet
          refine ⟨zf, zb, .slice ta xs.length tc, xs, Lib.hid fun hok => ?_, by rw [← h9]; exact M⟩
          rw [HK5.out]
          rw [← h9] at hok
          have hok2 : isOk R74 = true := ok_back (loc_want _) HQE.out hok
          rw [HOK.out hok2]
        · have hb : bf = false := by simpa using h1
          have ho : isO [102, 105, 108, 101, 115] (hdR R59) = false := HBF.out.symm.trans hb
          have HK := Lib.hid (sFiles_no ho)
          have h9 : R62 = R61 := by have := QF.out; rw [HK.out] at this; rw [HRB2.out, acc_no ho]; exact (Prod.mk.inj this).2
          rw [hb]
          clear h1 hb ho
          go_wp2
          go_meet
          exact ⟨0, 0, .slice none 0 0, [], Lib.hid fun _ => by rw [HK.out], by rw [← h9]; exact Lib.hid (M.out.rowNil (by simp))⟩
      case rest =>
        clear M
        obtain ⟨ff, fb, tv, xs, HOK, M⟩ := hcut
        generalize wc = t78 at *
        go_upto_region 30 with fail
        have H := Lib.hid (m_rules M.out hE)
        clear M
        go_wp2_with (go_at_call 47; refine (H.out).mono ?_; rintro e79 v79 ⟨rfl, z13, z14, z15, z16, bb, z18, z19, z20, ke, Rr, hru, m⟩; refine Hid.out ?_)
        refine Lib.hid ?_
        have HRU := Lib.hid hru
        have M := Lib.hid (show LeftP w0 (X :: G :: .raw ob (outO #[.string (bs zn), .int .i64 ed, .int .i64 wi, .int .i64 z3, .bool (z4 == 1), .int .i64 z5, .bool (z6 == 1), .bool (z7 == 1), .int .i64 z8, .int .i64 z9, .int .i64 ff, .int .i64 fb, tv, .int .i64 z13, .int .i64 z14, .int .i64 z15, .int .i64 z16, .bool bb, .int .i64 z18, .int .i64 z19, .int .i64 z20, .int .i64 ke]) :: [rowT tv xs]) 0 b Rr (v79) from m)
        clear m H hru
        go_upto_region 31 with fail
        have H := Lib.hid (m_end (by simp) M.out)
        clear M
        go_wp2_with (go_at_call 48; refine (H.out).mono ?_; rintro e80 v80 ⟨rfl, m⟩; refine Hid.out ?_)
        refine Lib.hid ?_
        have M := Lib.hid (show LeftP w0 (X :: G :: .raw ob (outO #[.string (bs zn), .int .i64 ed, .int .i64 wi, .int .i64 z3, .bool (z4 == 1), .int .i64 z5, .bool (z6 == 1), .bool (z7 == 1), .int .i64 z8, .int .i64 z9, .int .i64 ff, .int .i64 fb, tv, .int .i64 z13, .int .i64 z14, .int .i64 z15, .int .i64 z16, .bool bb, .int .i64 z18, .int .i64 z19, .int .i64 z20, .int .i64 ke]) :: [rowT tv xs]) 0 b (fin Rr).2 v80 from m)
        clear m H
        go_upto_region 32 with fail
        have S1 : sName R0 = (zn, R6) := by unfold sName; rw [bindR_eq Q1.out, bindR_eq Q3.out, bindR_eq Q6.out]; rfl
        have S2 : sEdit R6 = ((ed, wi), R18) := by unfold sEdit; rw [bindR_eq Q7.out, bindR_eq Q9.out, bindR_eq QE.out, bindR_eq Q18.out, HED.out]; rfl
        have P0 : Sy.part [100, 101, 108, 101, 116, 101] deW R18 = (z3, R24) := by unfold Sy.part; rw [bindR_eq Q19.out, bindR_eq Q21.out, bindR_eq Q24.out]; rfl
        have P1 : Sy.part [114, 101, 97, 99, 116] yn R24 = (z4, R30) := by unfold Sy.part; rw [bindR_eq Q25.out, bindR_eq Q27.out, bindR_eq Q30.out]; rfl
        have P2 : Sy.part [116, 104, 114, 101, 97, 100] thW R30 = (z5, R36) := by unfold Sy.part; rw [bindR_eq Q31.out, bindR_eq Q33.out, bindR_eq Q36.out]; rfl
        have P3 : Sy.part [113, 117, 111, 116, 101] yn R36 = (z6, R42) := by unfold Sy.part; rw [bindR_eq Q37.out, bindR_eq Q39.out, bindR_eq Q42.out]; rfl
        have P4 : Sy.part [109, 101, 110, 116, 105, 111, 110] yn R42 = (z7, R48) := by unfold Sy.part; rw [bindR_eq Q43.out, bindR_eq Q45.out, bindR_eq Q48.out]; rfl
        have S3 : sSize R48 = ((z8, z9), R59) := by unfold sSize; rw [bindR_eq Q49.out, bindR_eq Q51.out, bindR_eq Q54.out, bindR_eq Q56.out, bindR_eq Q59.out]; rfl
        have HPR := Lib.hid (show parse R0 = ((⟨zn, ed, wi, z3, z4 == 1, z5, z6 == 1, z7 == 1, z8, z9, (sFiles R59).1.1, (sFiles R59).1.2.1, (sFiles R59).1.2.2, z13, z14, z15, z16, bb, z18, z19, z20, ke⟩ : Pf), (fin Rr).2) by
          unfold parse
          rw [bindR_eq S1, bindR_eq S2, bindR_eq P0, bindR_eq P1, bindR_eq P2, bindR_eq P3, bindR_eq P4, bindR_eq S3, bindR_eq QF.out, rules_tail, HRU.out]
          rfl)
        clear S1 S2 P0 P1 P2 P3 P4 S3
        have HPF := Lib.hid (show isOk (parse R0).2 = true → (parse R0).1 = (⟨zn, ed, wi, z3, z4 == 1, z5, z6 == 1, z7 == 1, z8, z9, ff, fb, xs, z13, z14, z15, z16, bb, z18, z19, z20, ke⟩ : Pf) from fun hok => by
          rw [HPR.out] at hok ⊢
          have h1 : isOk Rr = true := ok_back loc_fin (z := (fin Rr).1) rfl hok
          rw [HOK.out (ok_back loc_rules HRU.out h1)])
        obtain ⟨_, ta, tc, htv⟩ := M.out.tx (j := 3) rfl (by decide)
        subst htv
        obtain ⟨cs, hcs⟩ : ∃ cs : Array Value, cs = #[.string (bs zn), .int .i64 ed, .int .i64 wi, .int .i64 z3, .bool (z4 == 1), .int .i64 z5, .bool (z6 == 1), .bool (z7 == 1), .int .i64 z8, .int .i64 z9, .int .i64 ff, .int .i64 fb, .slice ta xs.length tc, .int .i64 z13, .int .i64 z14, .int .i64 z15, .int .i64 z16, .bool bb, .int .i64 z18, .int .i64 z19, .int .i64 z20, .int .i64 ke] := ⟨_, rfl⟩
        have hsz : cs.size = 22 := by rw [hcs]; rfl
        have hone : cs.all (·.oneCell') = true := by rw [hcs]; simp [Value.oneCell']
        have M1 : LeftP w0 (X :: .raw g (outO #[.string (bs []), .int .i64 0, .int .i64 0, .int .i64 0, .bool false, .int .i64 0, .bool false, .bool false, .int .i64 0, .int .i64 0, .int .i64 0, .int .i64 0, .slice none 0 0, .int .i64 0, .int .i64 0, .int .i64 0, .int .i64 0, .bool false, .int .i64 0, .int .i64 0, .int .i64 0, .int .i64 0]) :: .raw ob (outO cs) :: [rowT (.slice ta xs.length tc) xs]) 0 b (fin Rr).2 v80 := by rw [hcs, ← HG0.out]; exact M.out
        have HO := Lib.hid (show (v80).heap[ob]? = some (.cells cs 24 (0, 0)) from M1.out_at (j := 2) rfl (by decide))
        have HG := Lib.hid (show (v80).heap[g]? = some (.cells #[.string (bs []), .int .i64 0, .int .i64 0, .int .i64 0, .bool false, .int .i64 0, .bool false, .bool false, .int .i64 0, .int .i64 0, .int .i64 0, .int .i64 0, .slice none 0 0, .int .i64 0, .int .i64 0, .int .i64 0, .int .i64 0, .bool false, .int .i64 0, .int .i64 0, .int .i64 0, .int .i64 0] 24 (0, 0)) from M1.out_at (j := 1) rfl (by decide))
        have M2 : LeftP w0 (X :: .raw g (outO cs) :: .raw ob (outO cs) :: [rowT (.slice ta xs.length tc) xs]) 0 b (fin Rr).2 ((v80).setRow g cs) := M1.raw_row (j := 1) rfl (by decide) cs
        have HTX := Lib.hid (M2.tx (j := 3) rfl (by decide)).1
        have HTK := Lib.hid (fun k (hk : k < w0.heap.size) cs' => M2.tx_keep (j := 3) rfl (by decide) hk cs')
        have M3 := Lib.hid M2.one
        have HG2 := Lib.hid (show ((v80).setRow g cs).heap[g]? = some (.cells cs 24 (0, 0)) from M2.out_at (j := 1) rfl (by decide))
        have HCS := Lib.hid hcs
        clear M M1 M2 hcs
        refine wp_region_lit ?_
        refine list_ev (v := .agg cs) rfl (ev_whole rfl rfl HO.out Tryz.underlying24 rfl (by rw [hsz]; kernel_rfl)) ?_
        simp only [Act.put, List.setIfInBounds_toArray, List.set_cons_zero, List.set_cons_succ]
        refine wpList_store_row rfl 24 (.tmp 2) (.tmp 98) rfl g cs rfl rfl _ #[.string (bs []), .int .i64 0, .int .i64 0, .int .i64 0, .bool false, .int .i64 0, .bool false, .bool false, .int .i64 0, .int .i64 0, .int .i64 0, .int .i64 0, .slice none 0 0, .int .i64 0, .int .i64 0, .int .i64 0, .int .i64 0, .bool false, .int .i64 0, .int .i64 0, .int .i64 0, .int .i64 0] HG.out (by rw [hsz]; kernel_rfl) (by rw [hsz]; rfl) hone ?_
        generalize (v80).setRow g cs = wz at *
        go_wp2
        (try simp only [Exit.inBlock, Exit.then])
        refine bodyPost_ret (results_cell_row (d := _) rfl _ _ g 24 cs (0, 0) rfl HG2.out Tryz.underlying24 rfl (by rw [hsz]; kernel_rfl)) rfl ?_
        exact ⟨cs, _, rfl, HPF.out, by rw [HCS.out]; exact ⟨.slice ta xs.length tc, rfl, HTX.out⟩, fun k hk cs' => by rw [HCS.out]; exact ⟨.slice ta xs.length tc, rfl, HTK.out k hk cs'⟩, by rw [HPR.out]; exact M3.out⟩
end
end Go.Proofs.YtlefgffnjcmfoaaGreatDoor
namespace Go.Proofs.YtlefgffnjcmfoaaGreatDoor
open Go.RowKit Go.Maps Go.ChangeMaps Go.MapKept
open Lx Sy Ch
attribute [local go_sem ↓] Go.wp_at_zero Go.wp_at_succ
theorem out_of {L l : List Tk} {p : Pf} (h : (parse (.ok L)).2 = .ok l) (hp : (parse (.ok L)).1 = p) : out L = (p, 0, 0) := by
  unfold out
  generalize parse (.ok L) = q at h hp
  obtain ⟨a, b⟩ := q
  simp only at h hp
  subst h hp; rfl
theorem out_no {L l : List Tk} {e : Int} (h : (parse (.ok L)).2 = .error (l, e)) : out L = (zero, posOf l, e) := by
  unfold out
  generalize parse (.ok L) = q at h
  obtain ⟨a, b⟩ := q
  simp only at h
  subst h; rfl
set_option maxHeartbeats 4000000 in
set_option maxRecDepth 100000 in
theorem p_parse {w : World} {s : S} (hE : Env w) (hs : s.length ≤ 10000) : Calls Tryz.prog 6 #[.string (bs s)] w (Parsed w (parseS s)) := by
  have HL := Lib.hid (fun w (h : Env w) => p_lex (w := w) (s := s) h (by omega))
  have HA0 := Lib.hid (show (w.alloc (.cells zC 24)).heap[w.heap.size]? = some (.cells zC 24) from heap_alloc_new w _)
  have hb0 : Below w.heap.size w (w.alloc (.cells zC 24)) := (Below.refl _ _).alloc (Nat.le_refl _) _
  have HE0 := Lib.hid (hE.keep hb0)
  have HB0 := Lib.hid hb0
  have hwa : w.heap.size < (w.alloc (.cells zC 24)).heap.size := by simp
  clear hb0 hE
  go_enter Tryz.func6, Tryz.ntmps6
  go_upto_region 1 with fail
  rw [show (w.alloc (.cells #[.string ⟨#[]⟩, .int .i64 0, .int .i64 0, .int .i64 0, .bool false, .int .i64 0, .bool false, .bool false, .int .i64 0, .int .i64 0, .int .i64 0, .int .i64 0, .slice none 0 0, .int .i64 0, .int .i64 0, .int .i64 0, .int .i64 0, .bool false, .int .i64 0, .int .i64 0, .int .i64 0, .int .i64 0] 24)) = w.alloc (.cells zC 24) from rfl]
  generalize w.alloc (.cells zC 24) = wa at *
  obtain ⟨⟨ts, p0, e0⟩, hlr⟩ : ∃ q, lexRes s = q := ⟨_, rfl⟩
  rw [hlr] at HL
  go_wp2_with (go_at_call 15; refine (HL.out _ HE0.out).mono ?_; rintro e w1 ⟨va, vc, rfl, ht, b1⟩; refine Hid.out ?_)
  refine Lib.hid ?_
  have HV := Lib.hid ht
  have HE1 := Lib.hid (HE0.out.keep b1)
  have hg := (b1.block _ hwa).trans HA0.out
  have hwa1 : w.heap.size < w1.heap.size := Nat.lt_of_lt_of_le hwa b1.size
  have HG := Lib.hid hg
  have HB2 := Lib.hid (HB0.out.trans (b1.mono HB0.out.size))
  have HLR := Lib.hid hlr
  clear ht b1 hlr HL hg HA0 HB0 HE0 hwa
  by_cases he : e0 = 0
  · subst he
    have hE3 := res_ends HLR.out
    have HHL := Lib.hid (show Hld w1 (.slice va ts.length vc) 0 (.ok ts) from ⟨ts, HV.out, hE3.1, txt_of HLR.out, hE3.2, .inl ⟨rfl, rfl⟩⟩)
    have HP := Lib.hid (parse_of HLR.out)
    have M := Lib.hid (show LeftP w1 [rv w1.heap.size (.slice va ts.length vc) 0] 0 w1.heap.size (.ok ts) (w1.alloc (.cells #[.slice va ts.length vc, .int .i64 0] 39)) from ⟨_, _, HHL.out, (OMem.start w1).raw _⟩)
    clear hE3 HHL
    go_upto_region 5 with fail
    generalize w1.alloc (.cells #[.slice va ts.length vc, .int .i64 0] 39) = w2 at *
    obtain ⟨X, hX⟩ : ∃ X, X = rv w1.heap.size (.slice va ts.length vc) 0 := ⟨_, rfl⟩
    obtain ⟨b, hb⟩ : ∃ b, b = w1.heap.size := ⟨_, rfl⟩
    rw [← hX, ← hb] at M
    rw [← hb]
    have HBB := Lib.hid hb
    have H := Lib.hid (m_profile M.out HE1.out)
    clear hX M hb
    refine wp_region_lit ?_
    refine list_callP rfl (ev_call1 rfl (enters_of Tryz.func16 (by kernel_rfl) rfl)) H.out ?_
    rintro e3 w3 ⟨cs, pf, rfl, hok, hpf, hpk, m⟩
    refine ⟨_, rfl, ?_⟩
    simp only [Act.put, List.setIfInBounds_toArray, List.set_cons_zero, List.set_cons_succ]
    obtain ⟨cs', h1, hsz, hone⟩ := hpf.cells
    cases h1
    have HOK := Lib.hid hok
    have HPK := Lib.hid hpk
    have M := Lib.hid m
    clear H hok hpf hpk m
    refine list_evw (v := .pointer (some ⟨w3.heap.size, 0, none⟩)) (w' := w3.alloc (.cells zC 24)) rfl (by unfold zC; go_simp; try rfl) ?_
    simp only [Act.put, List.setIfInBounds_toArray, List.set_cons_zero, List.set_cons_succ]
    refine list_skip (w' := w3.alloc (.cells cs 24)) rfl (ev_store (u := .pointer (some ⟨w3.heap.size, 0, none⟩)) (v := .agg cs) rfl rfl rfl (run_storeAt_new (P := Tryz.prog) w3 24 zC cs (by rw [hsz]; kernel_rfl) (by rw [hsz]; rfl) hone)) ?_
    have M4 := Lib.hid (LeftP.raw (by simp) M.out (outO cs))
    have HPF4 := Lib.hid (show PfAt ((w3.alloc (outO cs)).setRow w.heap.size cs) (.agg cs) pf from (HPK.out w.heap.size hwa1 cs).keep (by
      have h3 : w.heap.size < w3.heap.size := Nat.lt_of_lt_of_le hwa1 M.out.below.size
      refine ⟨rfl, rfl, rfl, by simp, fun x hx => ?_⟩
      have hx : x < w3.heap.size := by simpa using hx
      by_cases hxg : x = w.heap.size
      · subst hxg
        have g3 : w3.heap[w.heap.size]? = some (.cells zC 24) := (M.out.below.block _ hwa1).trans HG.out
        have g4 : (w3.alloc (outO cs)).heap[w.heap.size]? = some (.cells zC 24) := (Below.heap_alloc w3 (outO cs) _ h3).trans g3
        rw [setRow_heap _ _ zC cs _ _ g3, setRow_heap _ _ zC cs _ _ g4]
      · rw [setRow_other _ _ _ _ hxg, setRow_other _ _ _ _ hxg]
        exact Below.heap_alloc w3 (outO cs) _ hx))
    rw [show w3.alloc (.cells cs 24) = w3.alloc (outO cs) from rfl]
    clear M HPK
    generalize w3.alloc (outO cs) = w4 at *
    obtain ⟨pb, hpb⟩ : ∃ pb, pb = w3.heap.size := ⟨_, rfl⟩
    rw [← hpb] at M4 ⊢
    clear hpb
    have HPB := Lib.hid (show w4.heap[pb]? = some (.cells cs 24 (0, 0)) from M4.out.out_at (j := 1) rfl (by decide))
    have HG4 := Lib.hid (show w4.heap[w.heap.size]? = some (.cells zC 24) from (M4.out.below.block _ hwa1).trans HG.out)
    have HB4 := Lib.hid (show Below w.heap.size w w4 from HB2.out.trans (M4.out.below.mono HB2.out.size))
    obtain ⟨v, e, hH, h⟩ := M4.out
    have hi : ([X] ++ [Ob.raw pb (outO cs)]).set 0 (rv b v e) = [rv b v e, .raw pb (outO cs)] := rfl
    rw [hi] at h
    obtain ⟨z, m, tb, off, cap, rfl, hcap, hm, ⟨t0, t1, t2, t3⟩, hz, k0, k1, k2⟩ := hH.head h.below
    have r1 := h.raw_at (i := 0) rfl
    have c0 : w4.cell? ⟨b, 0, none⟩ = some (.slice (some ⟨tb, off, none⟩) (m.length + 1) cap) := by rw [Lib.cell_of_heap r1]; rfl
    have c1 : w4.cell? ⟨b, 1, none⟩ = some (.int .i64 e) := by rw [Lib.cell_of_heap r1]; rfl
    clear r1 hH h hi hz t0 t2 k2 M4
    by_cases hee : e = 0
    · subst hee
      have HO9 := Lib.hid (show out ts = (pf, 0, 0) from out_of (k0 rfl) (HOK.out (by rw [k0 rfl]; rfl)))
      clear k0 k1 t3 t1
      go_upto_region 8 with fail
      refine wp_region_lit ?_
      refine list_ev (v := .agg cs) rfl (ev_whole rfl rfl HPB.out Tryz.underlying24 rfl (by rw [hsz]; kernel_rfl)) ?_
      simp only [Act.put, List.setIfInBounds_toArray, List.set_cons_zero, List.set_cons_succ]
      refine wpList_store_row rfl 24 (.tmp 2) (.tmp 35) rfl w.heap.size cs rfl rfl _ zC HG4.out (by rw [hsz]; kernel_rfl) (by rw [hsz]; rfl) hone ?_
      have HG5 := Lib.hid (setRow_heap w4 w.heap.size zC cs _ _ HG4.out)
      have HB5 := Lib.hid (below_setRow HB4.out (Nat.le_refl _) cs)
      have HPF5 := HPF4
      generalize w4.setRow w.heap.size cs = w5 at *
      go_wp2
      (try simp only [Exit.inBlock, Exit.then])
      refine bodyPost_ret (results_cell_tmp2 (p := 2) (u := 3) (v := 4) rfl _ w5 w.heap.size _ cs (0, 0) _ rfl HG5.out Tryz.underlying24 rfl (by rw [hsz]; kernel_rfl)) rfl ?_
      exact ⟨cs, by rw [HP.out, HO9.out]; rfl, by rw [HP.out, HO9.out]; exact HPF5.out, HB5.out⟩
    · have heb : (e == 0) = false := beq_eq_false_iff_ne.2 hee
      have hen : (e != 0) = true := bne_iff_ne.2 hee
      have HO9 := Lib.hid (show out ts = (zero, z.pos, e) from out_no (k1 hee))
      clear k0 k1 hee
      go_upto_region 7 with fail
      have C0 : w4.drew.cell? ⟨b, 0, none⟩ = some (.slice (some ⟨tb, off, none⟩) (m.length + 1) cap) := c0
      have C1 : w4.drew.cell? ⟨b, 1, none⟩ = some (.int .i64 e) := c1
      have C3 : w4.drew.cell? ⟨tb, off + 3, none⟩ = some (.int .i64 z.pos) := t3
      have HGX := Lib.hid (show w4.drew.heap[w.heap.size]? = some (.cells zC 24) from HG4.out)
      have HBX := Lib.hid (show Below w.heap.size w w4.drew from HB4.out.trans ((below_drew _).mono HB4.out.size))
      clear c0 c1 t3
      have S0 : w4.drew.cell? ⟨b, 0, none⟩ = some (.slice (some ⟨tb, off, none⟩) (m.length + 1) cap) ∧ w4.drew.cell? ⟨b, 1, none⟩ = some (.int .i64 e) ∧ w4.drew.cell? ⟨tb, off + 3, none⟩ = some (.int .i64 z.pos) := ⟨C0, C1, C3⟩
      have hbne : b ≠ w.heap.size := by rw [HBB.out]; omega
      have htne : tb ≠ w.heap.size := by
        intro q
        rw [q, Lib.cell_of_heap HG4.out] at t1
        have hz : ∀ k, k < 22 → k ≠ 0 → (zC[k]?.all fun v => match v with | .string _ => false | _ => true) = true := by decide
        have hk : off + 1 < 22 := by have := (Array.getElem?_eq_some_iff.1 t1).1; exact this
        have := hz (off + 1) hk (by omega)
        rw [t1] at this
        cases this
      clear t1
      refine region_tillD 10 (fun wx => wx.cell? ⟨b, 0, none⟩ = some (.slice (some ⟨tb, off, none⟩) (m.length + 1) cap) ∧ wx.cell? ⟨b, 1, none⟩ = some (.int .i64 e) ∧ wx.cell? ⟨tb, off + 3, none⟩ = some (.int .i64 z.pos)) (by kernel_rfl) ?_
      refine till_take 0 40 false (v := ?v0) (by kernel_rfl) (by kernel_rfl) (by kernel_rfl) (by kernel_rfl) (by kernel_rfl) (fun _ _ _ h => h) ?hw0 S0 ?hy0 ?rest0
      case hw0 => (simp only [List.getElem?_toArray, List.getElem?_cons_zero, Option.elim]; rfl)
      case hy0 => (simp only [List.getElem?_toArray, List.getElem?_cons_zero, Option.elim]; intro wx _; go_simp; with_reducible rfl)
      simp only [dstOf, List.getElem?_toArray, List.getElem?_cons_zero, Option.bind, Act.put, List.setIfInBounds_toArray, List.set_cons_zero, List.set_cons_succ]
      refine till_take 1 40 false (v := ?v1) (by kernel_rfl) (by kernel_rfl) (by kernel_rfl) (by kernel_rfl) (by kernel_rfl) (fun _ _ _ h => h) ?hw1 S0 ?hy1 ?rest1
      case hw1 => (simp only [List.getElem?_toArray, List.getElem?_cons_zero, List.getElem?_cons_succ, Option.elim]; rfl)
      case hy1 => (simp only [List.getElem?_toArray, List.getElem?_cons_zero, List.getElem?_cons_succ, Option.elim]; intro wx _; go_simp; with_reducible rfl)
      simp only [dstOf, List.getElem?_toArray, List.getElem?_cons_zero, List.getElem?_cons_succ, Option.bind, Act.put, List.setIfInBounds_toArray, List.set_cons_zero, List.set_cons_succ]
      refine till_take 2 40 true (v := ?v2) (by kernel_rfl) (by kernel_rfl) (by kernel_rfl) (by kernel_rfl) (by kernel_rfl) (fun _ _ _ h => h) ?hw2 S0 ?hy2 ?rest2
      case hw2 => (simp only [List.getElem?_toArray, List.getElem?_cons_zero, List.getElem?_cons_succ, Option.elim]; rfl)
      case hy2 => (simp only [List.getElem?_toArray, List.getElem?_cons_zero, List.getElem?_cons_succ, Option.elim]; intro wx hx; have x0 := (hx trivial).1; have x1 := (hx trivial).2.1; have x2 := (hx trivial).2.2; go_simp; with_reducible rfl)
      simp only [dstOf, List.getElem?_toArray, List.getElem?_cons_zero, List.getElem?_cons_succ, Option.bind, Act.put, List.setIfInBounds_toArray, List.set_cons_zero, List.set_cons_succ]
      refine till_take 3 40 false (v := ?v3) (by kernel_rfl) (by kernel_rfl) (by kernel_rfl) (by kernel_rfl) (by kernel_rfl) (fun _ _ _ h => h) ?hw3 S0 ?hy3 ?rest3
      case hw3 => (simp only [List.getElem?_toArray, List.getElem?_cons_zero, List.getElem?_cons_succ, Option.elim]; rfl)
      case hy3 => (simp only [List.getElem?_toArray, List.getElem?_cons_zero, List.getElem?_cons_succ, Option.elim]; intro wx _; go_simp; with_reducible rfl)
      simp only [dstOf, List.getElem?_toArray, List.getElem?_cons_zero, List.getElem?_cons_succ, Option.bind, Act.put, List.setIfInBounds_toArray, List.set_cons_zero, List.set_cons_succ]
      refine till_take 4 40 false (v := ?v4) (by kernel_rfl) (by kernel_rfl) (by kernel_rfl) (by kernel_rfl) (by kernel_rfl) (fun _ _ _ h => h) ?hw4 S0 ?hy4 ?rest4
      case hw4 => (simp only [List.getElem?_toArray, List.getElem?_cons_zero, List.getElem?_cons_succ, Option.elim]; rfl)
      case hy4 => (simp only [List.getElem?_toArray, List.getElem?_cons_zero, List.getElem?_cons_succ, Option.elim]; intro wx _; go_simp; with_reducible rfl)
      simp only [dstOf, List.getElem?_toArray, List.getElem?_cons_zero, List.getElem?_cons_succ, Option.bind, Act.put, List.setIfInBounds_toArray, List.set_cons_zero, List.set_cons_succ]
      refine till_take 5 40 true (v := ?v5) (by kernel_rfl) (by kernel_rfl) (by kernel_rfl) (by kernel_rfl) (by kernel_rfl) (fun _ _ _ h => h) ?hw5 S0 ?hy5 ?rest5
      case hw5 => (simp only [List.getElem?_toArray, List.getElem?_cons_zero, List.getElem?_cons_succ, Option.elim]; rfl)
      case hy5 => (simp only [List.getElem?_toArray, List.getElem?_cons_zero, List.getElem?_cons_succ, Option.elim]; intro wx hx; have x0 := (hx trivial).1; have x1 := (hx trivial).2.1; have x2 := (hx trivial).2.2; go_simp; with_reducible rfl)
      simp only [dstOf, List.getElem?_toArray, List.getElem?_cons_zero, List.getElem?_cons_succ, Option.bind, Act.put, List.setIfInBounds_toArray, List.set_cons_zero, List.set_cons_succ]
      refine till_take 6 40 false (v := ?v6) (by kernel_rfl) (by kernel_rfl) (by kernel_rfl) (by kernel_rfl) (by kernel_rfl) (fun _ _ _ h => h) ?hw6 S0 ?hy6 ?rest6
      case hw6 => (simp only [List.getElem?_toArray, List.getElem?_cons_zero, List.getElem?_cons_succ, Option.elim]; rfl)
      case hy6 => (simp only [List.getElem?_toArray, List.getElem?_cons_zero, List.getElem?_cons_succ, Option.elim]; intro wx _; go_simp; with_reducible rfl)
      simp only [dstOf, List.getElem?_toArray, List.getElem?_cons_zero, List.getElem?_cons_succ, Option.bind, Act.put, List.setIfInBounds_toArray, List.set_cons_zero, List.set_cons_succ]
      refine till_take 7 40 true (v := ?v7) (by kernel_rfl) (by kernel_rfl) (by kernel_rfl) (by kernel_rfl) (by kernel_rfl) (fun _ _ _ h => h) ?hw7 S0 ?hy7 ?rest7
      case hw7 => (simp only [List.getElem?_toArray, List.getElem?_cons_zero, List.getElem?_cons_succ, Option.elim]; rfl)
      case hy7 => (simp only [List.getElem?_toArray, List.getElem?_cons_zero, List.getElem?_cons_succ, Option.elim]; intro wx hx; have x0 := (hx trivial).1; have x1 := (hx trivial).2.1; have x2 := (hx trivial).2.2; go_simp; with_reducible rfl)
      simp only [dstOf, List.getElem?_toArray, List.getElem?_cons_zero, List.getElem?_cons_succ, Option.bind, Act.put, List.setIfInBounds_toArray, List.set_cons_zero, List.set_cons_succ]
      refine till_before 8 (by kernel_rfl) (fun K hK => ?_)
      simp only [List.getElem?_toArray, List.getElem?_cons_zero, List.getElem?_cons_succ, Option.elim]
      rw [if_pos (by rfl)]
      refine wp_store_row 24 (.tmp 2) (.tmp 27) rfl w.heap.size zC rfl rfl _ zC HGX.out (by kernel_rfl) rfl (by kernel_rfl) ?_
      refine hK.out _ _ (⟨(cell_setRow_other _ _ _ _ hbne).trans C0, (cell_setRow_other _ _ _ _ hbne).trans C1, (cell_setRow_other _ _ _ _ htne).trans C3⟩) ?_
      clear hK K
      clear S0
      have HG5 := Lib.hid (setRow_heap w4.drew w.heap.size zC zC _ _ HGX.out)
      have HB5 := Lib.hid (below_setRow HBX.out (Nat.le_refl _) zC)
      have S0 : (w4.drew.setRow w.heap.size zC).cell? ⟨b, 0, none⟩ = some (.slice (some ⟨tb, off, none⟩) (m.length + 1) cap) ∧ (w4.drew.setRow w.heap.size zC).cell? ⟨b, 1, none⟩ = some (.int .i64 e) ∧ (w4.drew.setRow w.heap.size zC).cell? ⟨tb, off + 3, none⟩ = some (.int .i64 z.pos) := ⟨(cell_setRow_other _ _ _ _ hbne).trans C0, (cell_setRow_other _ _ _ _ hbne).trans C1, (cell_setRow_other _ _ _ _ htne).trans C3⟩
      clear C0 C1 C3
      generalize w4.drew.setRow w.heap.size zC = w5 at *
      refine till_take 9 40 false (v := ?v9) (by kernel_rfl) (by kernel_rfl) (by kernel_rfl) (by kernel_rfl) (by kernel_rfl) (fun _ _ _ h => h) ?hw9 S0 ?hy9 ?rest9
      case hw9 => (simp only [List.getElem?_toArray, List.getElem?_cons_zero, List.getElem?_cons_succ, Option.elim]; rfl)
      case hy9 => (simp only [List.getElem?_toArray, List.getElem?_cons_zero, List.getElem?_cons_succ, Option.elim]; intro wx _; go_simp; with_reducible rfl)
      simp only [dstOf, List.getElem?_toArray, List.getElem?_cons_zero, List.getElem?_cons_succ, Option.bind, Act.put, List.setIfInBounds_toArray, List.set_cons_zero, List.set_cons_succ]
      refine till_step 10 (by kernel_rfl) (by kernel_rfl) (fun K hK => ?_)
      simp only [List.getElem?_toArray, List.getElem?_cons_zero, List.getElem?_cons_succ, Option.elim]
      rw [if_pos (by rfl)]
      go_simp
      refine hK.out _ _ ?_
      clear hK K
      try simp only [Act.put, List.setIfInBounds_toArray, List.set_cons_zero, List.set_cons_succ]
      refine till_end (by kernel_rfl) ?_ _
      clear S0
      go_wp2
      (try simp only [Exit.inBlock, Exit.then])
      refine bodyPost_ret (results_cell_tmp2 (p := 2) (u := 3) (v := 4) rfl _ w5 w.heap.size _ zC (0, 0) _ rfl HG5.out Tryz.underlying24 rfl (by kernel_rfl)) rfl ?_
      exact ⟨zC, by rw [HP.out, HO9.out]; rfl, by rw [HP.out, HO9.out]; exact ⟨.slice none 0 0, rfl, TxAt.nil _⟩, HB5.out⟩
  · have HP := Lib.hid (parse_bad HLR.out he)
    have hne : (e0 != 0) = true := by simpa using he
    clear he
    go_upto_region 3 with fail
    refine wp_region_lit ?_
    refine list_ev (v := .agg zC) rfl (by unfold zC; go_simp; try rfl) ?_
    simp only [Act.put, List.setIfInBounds_toArray, List.set_cons_zero, List.set_cons_succ]
    refine list_ev (v := .int .i64 p0) rfl (ev_move rfl rfl) ?_
    refine list_ev (v := .int .i64 e0) rfl (ev_move rfl rfl) ?_
    simp only [Act.put, List.setIfInBounds_toArray, List.set_cons_zero, List.set_cons_succ]
    refine wpList_store_row rfl 24 (.tmp 2) (.tmp 18) rfl w.heap.size zC rfl rfl _ zC HG.out (by kernel_rfl) rfl (by kernel_rfl) ?_
    have HG2 := Lib.hid (setRow_heap w1 w.heap.size zC zC _ _ HG.out)
    have HB3 := Lib.hid (below_setRow HB2.out (Nat.le_refl _) zC)
    generalize w1.setRow w.heap.size zC = w5 at *
    go_wp2
    (try simp only [Exit.inBlock, Exit.then])
    refine bodyPost_ret (results_cell_tmp2 (p := 2) (u := 3) (v := 4) rfl _ _ w.heap.size _ zC (0, 0) _ rfl HG2.out Tryz.underlying24 rfl (by kernel_rfl)) rfl ?_
    exact ⟨zC, by rw [HP.out]; rfl, by rw [HP.out]; exact ⟨.slice none 0 0, rfl, TxAt.nil _⟩, HB3.out⟩
end Go.Proofs.YtlefgffnjcmfoaaGreatDoor
namespace Go.Proofs.YtlefgffnjcmfoaaGreatDoor
open Go.RowKit Go.Maps Go.ChangeMaps Go.MapKept
open Lx Sy Ch
attribute [local go_sem ↓] Go.wp_at_zero Go.wp_at_succ
def pfC (p : Pf) (tv : Value) : Array Value := #[.string (bs p.name), .int .i64 p.edit, .int .i64 p.within, .int .i64 p.delete, .bool p.react, .int .i64 p.thread, .bool p.quote, .bool p.mention, .int .i64 p.size, .int .i64 p.parts, .int .i64 p.files, .int .i64 p.bytes, tv, .int .i64 p.join, .int .i64 p.history, .int .i64 p.remove, .int .i64 p.level, .bool p.batch, .int .i64 p.rate, .int .i64 p.down, .int .i64 p.window, .int .i64 p.keep]
theorem pf_cell {w : World} {b k : Nat} {cs : Array Value} {t : TypeId} {fr : Nat × Nat} {v : Value} (h : w.heap[b]? = some (.cells cs t fr)) (hk : cs[k]? = some v) : w.cell? ⟨b, k, none⟩ = some v := by
  rw [Lib.cell_of_heap h]; exact hk
theorem ev_box {P : Program} {w : World} {a : Act} {o : Oper} {T s : Nat} {cs : Array Value} (ho : o.op = .box T (.tmp s)) (hs : a.tmps[s]? = some (.agg cs)) : (execOp a.eval o).run P w = .ok (.value (.pointer (some ⟨w.heap.size, 0, none⟩))) (w.alloc (.cells cs T)) := by
  unfold execOp; rw [ho]; simp only [eval_at hs]
  rfl
theorem ev_box' {P : Program} {w : World} {a : Act} {o : Oper} {T s k : Nat} {cs : Array Value} (ho : o.op = .box T (.tmp s)) (hs : a.tmps[s]? = some (.agg cs)) (hk : w.heap.size = k) : (execOp a.eval o).run P w = .ok (.value (.pointer (some ⟨k, 0, none⟩))) (w.alloc (.cells cs T)) := by
  subst hk; exact ev_box ho hs
theorem load_sl (a : Option Addr) (n c : Nat) : LoadIs Tryz.prog 22 (.slice a n c) := fun b off w h => by go_simp
theorem pf12 : FieldIs Tryz.prog 24 12 12 := fun b w => by go_simp
section
variable {w : World}
/-- A word of the row stands for n. -/
def numB (T : List S) (n : Int) : Bool := decide (0 ≤ n ∧ n < T.length)
set_option maxHeartbeats 2000000 in
set_option maxRecDepth 100000 in
theorem p_isnum {row : Nat} {T : List S} (hE : Env w) (hT : rowsW[row]? = some T) (n : Int) :
    Calls Tryz.prog 32 #[.int .i64 row, .int .i64 n] w fun e w' => e = .returned (.bool (numB T n)) ∧ w = w' := by
  obtain ⟨x, hx, hxt⟩ := hE.wrd row T hT
  obtain ⟨a, c, rfl⟩ := hxt.slice
  have hr6 : (row : Int) < 6 := by have := (List.getElem?_eq_some_iff.1 hT).1; simp [rowsW] at this; omega
  have hx0 : w.cell? ⟨0, row, none⟩ = some (.slice a T.length c) := hx
  clear hxt hx hE hT
  go_enter Tryz.func32, Tryz.ntmps32
  by_cases h0 : 0 ≤ n
  · by_cases h1 : n < T.length
    · have HR := Lib.hid (show numB T n = true from decide_eq_true ⟨h0, h1⟩)
      go_wp2
      go_ret
      exact ⟨ret_bool HR.out.symm, rfl⟩
    · have HR := Lib.hid (show numB T n = false from decide_eq_false fun q => h1 q.2)
      go_wp2
      go_ret
      exact ⟨ret_bool (by rw [HR.out]), rfl⟩
  · have HR := Lib.hid (show numB T n = false from decide_eq_false fun q => h0 q.1)
    go_wp2
    go_ret
    exact ⟨ret_bool HR.out.symm, rfl⟩
def inB (l : List Int) : Bool := decide (∀ n ∈ l, 0 ≤ n ∧ n ≤ 1073741824)
set_option maxHeartbeats 2000000 in
set_option maxRecDepth 100000 in
theorem p_inrange {g : Nat} {l : List Int} (hg : w.heap[g]? = some (.cells (l.map fun z => Value.int .i64 z).toArray 3 (0, 0))) (hn : l.length ≤ 100) :
    Calls Tryz.prog 33 #[.slice (some ⟨g, 0, none⟩) l.length l.length] w fun e w' => e = .returned (.bool (inB l)) ∧ w = w' := by
  have HG := Lib.hid hg
  clear hg
  go_enter Tryz.func33, Tryz.ntmps33
  go_wp2
  go_loopw [7] (fun n wr => ∃ k : Nat, k ≤ l.length ∧ n = .int .i64 k ∧ Hid (∀ z ∈ l.take k, 0 ≤ z ∧ z ≤ 1073741824) ∧ w = wr) (fun n _ => l.length - (intOf n).toNat)
  case atStart => exact ⟨0, Nat.zero_le _, rfl, Lib.hid (by simp), by trivial⟩
  case round =>
    obtain ⟨k, hk, rfl, HX, rfl⟩ := hrel
    by_cases hlt : k < l.length
    · obtain ⟨z, hz⟩ : ∃ z, l[k]? = some z := ⟨_, List.getElem?_eq_getElem hlt⟩
      have c0 : w.cell? ⟨g, k, none⟩ = some (.int .i64 z) := by rw [Lib.cell_of_heap HG.out]; simp [hz]
      have HZ := Lib.hid hz
      clear hz
      by_cases h0 : z < 0
      · have HR := Lib.hid (show inB l = false from decide_eq_false fun q => by have := (q z (List.mem_of_getElem? HZ.out)).1; omega)
        go_wp2
        go_ret
        exact ⟨ret_bool HR.out.symm, rfl⟩
      · by_cases h1 : 1073741824 < z
        · have HR := Lib.hid (show inB l = false from decide_eq_false fun q => by have := (q z (List.mem_of_getElem? HZ.out)).2; omega)
          go_wp2
          go_ret
          exact ⟨ret_bool HR.out.symm, rfl⟩
        · have HX2 := Lib.hid (show ∀ y ∈ l.take (k + 1), 0 ≤ y ∧ y ≤ 1073741824 by
            intro y hy
            rw [List.take_add_one, HZ.out] at hy
            rcases List.mem_append.1 hy with q | q
            · exact HX.out y q
            · simp at q; subst q; omega)
          go_wp2
          go_roundw
          case rel => exact ⟨k + 1, by omega, by go_num, HX2, by trivial⟩
          case measure => simp [intOf]; omega
    · obtain rfl : k = l.length := by omega
      have HR := Lib.hid (show inB l = true from decide_eq_true (by have := HX.out; rwa [List.take_length] at this))
      go_wp2
      go_ret
      exact ⟨ret_bool HR.out.symm, rfl⟩
set_option maxHeartbeats 4000000 in
set_option maxRecDepth 100000 in
theorem p_files {x : Value} {p : Pf} (hx : PfAt w x p) (hl : p.types.length ≤ 1000) (hw : ∀ z ∈ p.types, z.length ≤ 1000) :
    Calls Tryz.prog 34 #[x] w (Reads w (.bool (decide (filesOk p)))) := by
  obtain ⟨tv, rfl, ht⟩ := hx
  obtain ⟨ta, tc, rfl⟩ := ht.slice
  have hb0 : Below w.heap.size w (w.alloc (.cells (pfC p (.slice ta p.types.length tc)) 24)) := (Below.refl _ _).alloc (Nat.le_refl _) _
  have HB0 := Lib.hid hb0
  have HT := Lib.hid (ht.keep hb0)
  have hh := (MapKept.heap_alloc w (.cells (pfC p (.slice ta p.types.length tc)) 24)).1
  have g10 := pf_cell (k := 10) (v := .int .i64 p.files) hh rfl
  have g11 := pf_cell (k := 11) (v := .int .i64 p.bytes) hh rfl
  have g12 := pf_cell (k := 12) (v := .slice ta p.types.length tc) hh rfl
  have HW := Lib.hid (fun w (z : S) (hz : z ∈ p.types) => p_word (w := w) (s := z) (by have := hw z hz; omega))
  clear ht hb0 hh hw
  go_enter Tryz.func34, Tryz.ntmps34
  go_upto_region 0 with fail
  refine wp_region_lit ?_
  refine list_evw (v := .pointer (some ⟨w.heap.size, 0, none⟩)) (w' := w.alloc (.cells (pfC p (.slice ta p.types.length tc)) 24)) rfl (ev_box rfl rfl) ?_
  simp only [Act.put, List.setIfInBounds_toArray, List.set_cons_zero, List.set_cons_succ]
  generalize w.alloc (.cells (pfC p (.slice ta p.types.length tc)) 24) = w1 at *
  generalize pfV p (.slice ta p.types.length tc) = xv
  refine list_ev (v := .bool false) rfl (by go_simp) ?_
  simp only [Act.put, List.setIfInBounds_toArray, List.set_cons_zero, List.set_cons_succ]
  by_cases h0 : p.files = 0
  · by_cases h1 : p.bytes = 0
    · have hb1 : (p.bytes == 0) = true := by rw [h1]; rfl
      by_cases h2 : p.types.length = 0
      · have HR := Lib.hid (show decide (filesOk p) = true from decide_eq_true ⟨fun _ => ⟨h1, List.eq_nil_of_length_eq_zero h2⟩, fun q => absurd h0 q⟩)
        have hz : ((p.types.length : Int) == 0) = true := by rw [beq_iff_eq]; omega
        have hf0 : (p.files == 0) = true := by rw [h0]; rfl
        clear h0 h1 h2
        go_wp2
        go_ret
        exact ⟨ret_bool HR.out.symm, HB0.out⟩
      · have HR := Lib.hid (show decide (filesOk p) = false from decide_eq_false fun q => h2 (by rw [(q.1 h0).2]; rfl))
        have hz : ((p.types.length : Int) == 0) = false := beq_eq_false_iff_ne.2 (by omega)
        have hf0 : (p.files == 0) = true := by rw [h0]; rfl
        clear h0 h1 h2
        go_wp2
        go_ret
        exact ⟨ret_bool HR.out.symm, HB0.out⟩
    · have HR := Lib.hid (show decide (filesOk p) = false from decide_eq_false fun q => h1 (q.1 h0).1)
      have hb1 : (p.bytes == 0) = false := beq_eq_false_iff_ne.2 h1
      have hf0 : (p.files == 0) = true := by rw [h0]; rfl
      clear h0 h1
      go_wp2
      go_ret
      exact ⟨ret_bool HR.out.symm, HB0.out⟩
  · have hf0 : (p.files == 0) = false := beq_eq_false_iff_ne.2 h0
    by_cases h1 : p.types.length = 0
    · have HR := Lib.hid (show decide (filesOk p) = false from decide_eq_false fun q => by have := (q.2 h0).1.1; omega)
      have hz : ((p.types.length : Int) == 0) = true := by rw [beq_iff_eq]; omega
      clear h0
      go_wp2
      go_ret
      exact ⟨ret_bool HR.out.symm, HB0.out⟩
    · have hz : ((p.types.length : Int) == 0) = false := beq_eq_false_iff_ne.2 (by omega)
      by_cases h2 : p.types.length ≤ 20
      · have h2' : ¬ (20 : Int) < (p.types.length : Int) := by omega
        have HF0 := Lib.hid h0
        obtain ⟨tb, off, cap, h3, _, hc⟩ := HT.out.form (by omega)
        cases h3
        have HC := Lib.hid hc
        clear hc h0
        go_wp2
        go_loopw [30] (fun n wr => ∃ k : Nat, k ≤ p.types.length ∧ n = .int .i64 k ∧ Hid (∀ z ∈ p.types.take k, wordOk z = true) ∧ w1 = wr) (fun n _ => p.types.length - (intOf n).toNat)
        case atStart => exact ⟨0, Nat.zero_le _, rfl, Lib.hid (by simp), by trivial⟩
        case round =>
          obtain ⟨k, hk, rfl, HX, rfl⟩ := hrel
          by_cases hlt : k < p.types.length
          · obtain ⟨z, hz⟩ : ∃ z, p.types[k]? = some z := ⟨_, List.getElem?_eq_getElem hlt⟩
            have c0 := HC.out k z hz
            have HZ := Lib.hid hz
            have H := HW.out w1 z (List.mem_of_getElem? hz)
            clear hz
            cases hwz : wordOk z with
            | false =>
              have HR := Lib.hid (show decide (filesOk p) = false from decide_eq_false fun q => by
                have := (q.2 HF0.out).2 z (List.mem_of_getElem? HZ.out)
                rw [hwz] at this; cases this)
              rw [hwz] at H
              have H := Lib.hid H
              clear hwz
              go_wp2_with (go_at_call 31; refine (H.out).mono ?_; rintro e3 w3 ⟨rfl, rfl⟩; refine Hid.out ?_)
              refine Lib.hid ?_
              go_wp2
              go_ret
              exact ⟨ret_bool HR.out.symm, HB0.out⟩
            | true =>
              have HX2 := Lib.hid (show ∀ y ∈ p.types.take (k + 1), wordOk y = true by
                intro y hy
                rw [List.take_add_one, HZ.out] at hy
                rcases List.mem_append.1 hy with q | q
                · exact HX.out y q
                · simp at q; subst q; exact hwz)
              rw [hwz] at H
              have H := Lib.hid H
              clear hwz
              go_wp2_with (go_at_call 31; refine (H.out).mono ?_; rintro e3 w3 ⟨rfl, rfl⟩; refine Hid.out ?_)
              refine Lib.hid ?_
              go_wp2
              go_roundw
              case rel => exact ⟨k + 1, by omega, by go_num, HX2, by trivial⟩
              case measure => simp [intOf]; omega
          · obtain rfl : k = p.types.length := by omega
            have HR := Lib.hid (show decide (filesOk p) = true from decide_eq_true ⟨fun q => absurd q HF0.out, fun _ => ⟨⟨by omega, h2⟩, by have := HX.out; rwa [List.take_length] at this⟩⟩)
            go_wp2
            go_ret
            exact ⟨ret_bool HR.out.symm, HB0.out⟩
      · have h2' : (20 : Int) < (p.types.length : Int) := by omega
        have HR := Lib.hid (show decide (filesOk p) = false from decide_eq_false fun q => by have := (q.2 h0).1.2; omega)
        clear h0
        go_wp2
        go_ret
        exact ⟨ret_bool HR.out.symm, HB0.out⟩
end
end Go.Proofs.YtlefgffnjcmfoaaGreatDoor
namespace Go.Proofs.YtlefgffnjcmfoaaGreatDoor
open Go.RowKit Go.Maps Go.ChangeMaps Go.MapKept
open Lx Sy Ch
attribute [local go_sem ↓] Go.wp_at_zero Go.wp_at_succ
theorem ev_callK {P : Program} {w : World} {a : Act} {u : Value} {fn : FuncId} {d : Option Tmp} {ats : Array TypeId} {ty : TypeId} {po : String} {af : Array Edge} {gd : Option (Nat × Bool)} {z : Value} {s2 : Nat} (hs : a.tmps[s2]? = some u) (he : ∀ args w, (callFunc fn args).run P w = .ok (.enter fn args) w) :
    (execOp a.eval { dst := d, op := .call { callee := .value (.func fn), args := #[.const z, .tmp s2], argTypes := ats }, type := ty, pos := po, after := af, guard := gd }).run P w = .ok (.enter fn #[z, u]) w := by
  have this := he #[z, u] w
  simp [go_sem]
  rw [hs, Option.getD_some]
  exact this
section
variable {P : Program} {ops : Array Oper} {Q : Exit → Act → World → Prop} {rest : List Oper} {w w' : World} {a : Act} {o : Oper} {s : Nat} {v : Value}
def Fr (a : Act) : Prop := a.tmps.size = 77 ∧ a.defers = []
/-- One operation over a frame of which nothing else is known. -/
theorem op_evw (hd : o.dst = some s) (hs : s < a.tmps.size) (hw : Region.wanted o (yielded ops a.tmps) = true) (h : (execOp a.eval o).run P w = .ok (.value v) w') (hr : ∀ a', (Fr a → Fr a') → a'.tmps[s]? = some v → (∀ k, k ≠ s → a'.tmps[k]? = a.tmps[k]?) → wpList P ops Q rest a' w') : wpList P ops Q (o :: rest) a w := by
  refine list_evw hw h ?_
  rw [hd]
  exact hr _ (fun h => ⟨(put_size _ _ _).trans h.1, h.2⟩) (put_at _ _ _ hs) fun k hk => put_ne _ _ (Ne.symm hk)
theorem op_ev (hd : o.dst = some s) (hs : s < a.tmps.size) (hw : Region.wanted o (yielded ops a.tmps) = true) (h : (execOp a.eval o).run P w = .ok (.value v) w) (hr : ∀ a', (Fr a → Fr a') → a'.tmps[s]? = some v → (∀ k, k ≠ s → a'.tmps[k]? = a.tmps[k]?) → wpList P ops Q rest a' w) : wpList P ops Q (o :: rest) a w := op_evw hd hs hw h hr
theorem op_off (hd : o.dst = some s) (hs : s < a.tmps.size) (hw : Region.wanted o (yielded ops a.tmps) = false) (hr : ∀ a', (Fr a → Fr a') → a'.tmps[s]? = some undef → (∀ k, k ≠ s → a'.tmps[k]? = a.tmps[k]?) → wpList P ops Q rest a' w) : wpList P ops Q (o :: rest) a w := by
  refine list_off hw ?_
  rw [hd]
  exact hr _ (fun h => ⟨(put_size _ _ _).trans h.1, h.2⟩) (put_at _ _ _ hs) fun k hk => put_ne _ _ (Ne.symm hk)
theorem op_call {fn : FuncId} {args : Array Value} {Post : Ending → World → Prop} (hd : o.dst = some s) (hs : s < a.tmps.size) (hw : Region.wanted o (yielded ops a.tmps) = true) (h : (execOp a.eval o).run P w = .ok (.enter fn args) w) (hC : Calls P fn args w Post)
    (hr : ∀ e w', Post e w' → ∃ v, e = .returned v ∧ ∀ a', (Fr a → Fr a') → a'.tmps[s]? = some v → (∀ k, k ≠ s → a'.tmps[k]? = a.tmps[k]?) → wpList P ops Q rest a' w') : wpList P ops Q (o :: rest) a w := by
  refine list_callP hw h hC ?_
  intro e w' hp
  obtain ⟨v, he, h2⟩ := hr e w' hp
  refine ⟨v, he, ?_⟩
  rw [hd]
  exact h2 _ (fun h => ⟨(put_size _ _ _).trans h.1, h.2⟩) (put_at _ _ _ hs) fun k hk => put_ne _ _ (Ne.symm hk)
end
set_option maxRecDepth 100000 in
theorem edit_and {ops : Array Oper} {Q : Exit → Act → World → Prop} {rest : List Oper} {w : World} {a : Act} {g : Nat} {p : Pf} {ta : Option Addr} {tc : Nat} {ty3 ty4 ty5 ty6 ty7 ty8 ty9 ty10 ty11 ty12 ty13 ty14 ty15 ty16 ty17 : TypeId} {po3 po4 po5 po6 po7 po8 po9 po10 po11 po12 po13 po14 po15 po16 po17 : String} {af3 af4 af5 af6 af7 af8 af9 af10 af11 af12 af13 af14 af15 af16 af17 : Array Edge}
    {c : Bool} (hz : Fr a) (f1 : a.tmps[1]? = some (.pointer (some ⟨g, 0, none⟩))) (f5 : a.tmps[5]? = some (.bool c)) (hP : w.heap[g]? = some (.cells (pfC p (.slice ta p.types.length tc)) 24)) 
    (hg3 : (ops[3]?).bind (·.dst) = some 6) (hg7 : (ops[7]?).bind (·.dst) = some 10) (hg11 : (ops[11]?).bind (·.dst) = some 14)
    (h : ∀ a' w', Below w.heap.size w w' → Fr a' → a'.tmps[1]? = some (.pointer (some ⟨g, 0, none⟩)) → a'.tmps[20]? = some (.bool (c && (decide (p.edit = 2) || (decide (p.edit = 0) && decide (p.within = 0))))) → wpList Tryz.prog ops Q rest a' w') :
    wpList Tryz.prog ops Q ({ dst := some 6, op := .move (.tmp 5), type := ty3, pos := po3, after := af3, guard := none } :: { dst := some 7, op := .fieldAddr 24 (.tmp 1) 1, type := ty4, pos := po4, after := af4, guard := some (3, true) } :: { dst := some 8, op := .load 3 (.tmp 7), type := ty5, pos := po5, after := af5, guard := some (3, true) } :: { dst := some 9, op := .binOp .eql 3 (.tmp 8) (.const (.int .i64 (2))) 3, type := ty6, pos := po6, after := af6, guard := some (3, true) } :: { dst := some 10, op := .move (.tmp 9), type := ty7, pos := po7, after := af7, guard := some (3, true) } :: { dst := some 11, op := .fieldAddr 24 (.tmp 1) 1, type := ty8, pos := po8, after := af8, guard := some (7, false) } :: { dst := some 12, op := .load 3 (.tmp 11), type := ty9, pos := po9, after := af9, guard := some (7, false) } :: { dst := some 13, op := .binOp .eql 3 (.tmp 12) (.const (.int .i64 (0))) 3, type := ty10, pos := po10, after := af10, guard := some (7, false) } :: { dst := some 14, op := .move (.tmp 13), type := ty11, pos := po11, after := af11, guard := some (7, false) } :: { dst := some 15, op := .fieldAddr 24 (.tmp 1) 2, type := ty12, pos := po12, after := af12, guard := some (11, true) } :: { dst := some 16, op := .load 3 (.tmp 15), type := ty13, pos := po13, after := af13, guard := some (11, true) } :: { dst := some 17, op := .binOp .eql 3 (.tmp 16) (.const (.int .i64 (0))) 3, type := ty14, pos := po14, after := af14, guard := some (11, true) } :: { dst := some 18, op := .pick (.tmp 14) (.tmp 17) (.const (.bool false)), type := ty15, pos := po15, after := af15, guard := some (7, false) } :: { dst := some 19, op := .pick (.tmp 10) (.const (.bool true)) (.tmp 18), type := ty16, pos := po16, after := af16, guard := some (3, true) } :: { dst := some 20, op := .pick (.tmp 6) (.tmp 19) (.const (.bool false)), type := ty17, pos := po17, after := af17, guard := none } :: rest) a w := by
  cases c with
  | true =>
    refine op_ev (v := .bool true) rfl (by have := hz.1; omega) rfl (ev_move rfl f5) ?_
    intro a2 z2 e2 k2
    have f6 := e2
    replace f1 := (k2 1 (by decide)).trans f1
    clear f5
    replace hz := z2 hz
    clear e2 k2 z2
    refine op_ev (v := .pointer (some ⟨g, 1, none⟩)) rfl (by have := hz.1; omega) ((Ch.want_at rfl hg3 f6).trans rfl) (ev_field rfl f1 pf1) ?_
    intro a2 z2 e2 k2
    have f7 := e2
    replace f1 := (k2 1 (by decide)).trans f1
    replace f6 := (k2 6 (by decide)).trans f6
    replace hz := z2 hz
    clear e2 k2 z2
    refine op_ev (v := .int .i64 p.edit) rfl (by have := hz.1; omega) ((Ch.want_at rfl hg3 f6).trans rfl) (ev_load rfl f7 (load_int _) (pf_cell (v := .int .i64 p.edit) hP rfl)) ?_
    intro a2 z2 e2 k2
    have f8 := e2
    replace f1 := (k2 1 (by decide)).trans f1
    replace f6 := (k2 6 (by decide)).trans f6
    clear f7
    replace hz := z2 hz
    clear e2 k2 z2
    refine op_ev (v := .bool (decide (p.edit = 2))) rfl (by have := hz.1; omega) ((Ch.want_at rfl hg3 f6).trans rfl) (ev_bin rfl f8 (eqz _ _)) ?_
    intro a2 z2 e2 k2
    have f9 := e2
    replace f1 := (k2 1 (by decide)).trans f1
    replace f6 := (k2 6 (by decide)).trans f6
    clear f8
    replace hz := z2 hz
    clear e2 k2 z2
    generalize hb1 : decide (p.edit = 2) = b1 at f9
    cases b1 with
    | true =>
      refine op_ev (v := .bool true) rfl (by have := hz.1; omega) ((Ch.want_at rfl hg3 f6).trans rfl) (ev_move rfl f9) ?_
      intro a2 z2 e2 k2
      have f10 := e2
      replace f1 := (k2 1 (by decide)).trans f1
      replace f6 := (k2 6 (by decide)).trans f6
      clear f9
      replace hz := z2 hz
      clear e2 k2 z2
      refine op_off rfl (by have := hz.1; omega) ((Ch.want_at rfl hg7 f10).trans rfl) ?_
      intro a2 z2 e2 k2
      have f11 := e2
      replace f1 := (k2 1 (by decide)).trans f1
      replace f6 := (k2 6 (by decide)).trans f6
      replace f10 := (k2 10 (by decide)).trans f10
      replace hz := z2 hz
      clear e2 k2 z2
      refine op_off rfl (by have := hz.1; omega) ((Ch.want_at rfl hg7 f10).trans rfl) ?_
      intro a2 z2 e2 k2
      have f12 := e2
      replace f1 := (k2 1 (by decide)).trans f1
      replace f6 := (k2 6 (by decide)).trans f6
      replace f10 := (k2 10 (by decide)).trans f10
      clear f11
      replace hz := z2 hz
      clear e2 k2 z2
      refine op_off rfl (by have := hz.1; omega) ((Ch.want_at rfl hg7 f10).trans rfl) ?_
      intro a2 z2 e2 k2
      have f13 := e2
      replace f1 := (k2 1 (by decide)).trans f1
      replace f6 := (k2 6 (by decide)).trans f6
      replace f10 := (k2 10 (by decide)).trans f10
      clear f12
      replace hz := z2 hz
      clear e2 k2 z2
      refine op_off rfl (by have := hz.1; omega) ((Ch.want_at rfl hg7 f10).trans rfl) ?_
      intro a2 z2 e2 k2
      have f14 := e2
      replace f1 := (k2 1 (by decide)).trans f1
      replace f6 := (k2 6 (by decide)).trans f6
      replace f10 := (k2 10 (by decide)).trans f10
      clear f13
      replace hz := z2 hz
      clear e2 k2 z2
      refine op_off rfl (by have := hz.1; omega) (Ch.want_undef rfl hg11 f14) ?_
      intro a2 z2 e2 k2
      have f15 := e2
      replace f1 := (k2 1 (by decide)).trans f1
      replace f6 := (k2 6 (by decide)).trans f6
      replace f10 := (k2 10 (by decide)).trans f10
      replace f14 := (k2 14 (by decide)).trans f14
      replace hz := z2 hz
      clear e2 k2 z2
      refine op_off rfl (by have := hz.1; omega) (Ch.want_undef rfl hg11 f14) ?_
      intro a2 z2 e2 k2
      have f16 := e2
      replace f1 := (k2 1 (by decide)).trans f1
      replace f6 := (k2 6 (by decide)).trans f6
      replace f10 := (k2 10 (by decide)).trans f10
      replace f14 := (k2 14 (by decide)).trans f14
      clear f15
      replace hz := z2 hz
      clear e2 k2 z2
      refine op_off rfl (by have := hz.1; omega) (Ch.want_undef rfl hg11 f14) ?_
      intro a2 z2 e2 k2
      have f17 := e2
      replace f1 := (k2 1 (by decide)).trans f1
      replace f6 := (k2 6 (by decide)).trans f6
      replace f10 := (k2 10 (by decide)).trans f10
      replace f14 := (k2 14 (by decide)).trans f14
      clear f16
      replace hz := z2 hz
      clear e2 k2 z2
      refine op_off rfl (by have := hz.1; omega) ((Ch.want_at rfl hg7 f10).trans rfl) ?_
      intro a2 z2 e2 k2
      have f18 := e2
      replace f1 := (k2 1 (by decide)).trans f1
      replace f6 := (k2 6 (by decide)).trans f6
      replace f10 := (k2 10 (by decide)).trans f10
      clear f14
      clear f17
      replace hz := z2 hz
      clear e2 k2 z2
      refine op_ev (v := .bool true) rfl (by have := hz.1; omega) ((Ch.want_at rfl hg3 f6).trans rfl) (ev_pick_or (c := true) (u := undef) rfl f10 (fun q => Bool.noConfusion q)) ?_
      intro a2 z2 e2 k2
      have f19 := e2
      replace f1 := (k2 1 (by decide)).trans f1
      replace f6 := (k2 6 (by decide)).trans f6
      clear f10
      clear f18
      replace hz := z2 hz
      clear e2 k2 z2
      refine op_ev (v := .bool true) rfl (by have := hz.1; omega) rfl (ev_pick (c := true) (u := .bool true) rfl f6 (fun q => f19)) ?_
      intro a2 z2 e2 k2
      have f20 := e2
      replace f1 := (k2 1 (by decide)).trans f1
      clear f6
      clear f19
      replace hz := z2 hz
      clear e2 k2 z2
      exact h _ _ (Below.refl _ _) hz f1 (by rw [f20]; first | rfl | simp_all)
    | false =>
      refine op_ev (v := .bool false) rfl (by have := hz.1; omega) ((Ch.want_at rfl hg3 f6).trans rfl) (ev_move rfl f9) ?_
      intro a2 z2 e2 k2
      have f10 := e2
      replace f1 := (k2 1 (by decide)).trans f1
      replace f6 := (k2 6 (by decide)).trans f6
      clear f9
      replace hz := z2 hz
      clear e2 k2 z2
      refine op_ev (v := .pointer (some ⟨g, 1, none⟩)) rfl (by have := hz.1; omega) ((Ch.want_at rfl hg7 f10).trans rfl) (ev_field rfl f1 pf1) ?_
      intro a2 z2 e2 k2
      have f11 := e2
      replace f1 := (k2 1 (by decide)).trans f1
      replace f6 := (k2 6 (by decide)).trans f6
      replace f10 := (k2 10 (by decide)).trans f10
      replace hz := z2 hz
      clear e2 k2 z2
      refine op_ev (v := .int .i64 p.edit) rfl (by have := hz.1; omega) ((Ch.want_at rfl hg7 f10).trans rfl) (ev_load rfl f11 (load_int _) (pf_cell (v := .int .i64 p.edit) hP rfl)) ?_
      intro a2 z2 e2 k2
      have f12 := e2
      replace f1 := (k2 1 (by decide)).trans f1
      replace f6 := (k2 6 (by decide)).trans f6
      replace f10 := (k2 10 (by decide)).trans f10
      clear f11
      replace hz := z2 hz
      clear e2 k2 z2
      refine op_ev (v := .bool (decide (p.edit = 0))) rfl (by have := hz.1; omega) ((Ch.want_at rfl hg7 f10).trans rfl) (ev_bin rfl f12 (eqz _ _)) ?_
      intro a2 z2 e2 k2
      have f13 := e2
      replace f1 := (k2 1 (by decide)).trans f1
      replace f6 := (k2 6 (by decide)).trans f6
      replace f10 := (k2 10 (by decide)).trans f10
      clear f12
      replace hz := z2 hz
      clear e2 k2 z2
      generalize hb2 : decide (p.edit = 0) = b2 at f13
      cases b2 with
      | true =>
        refine op_ev (v := .bool true) rfl (by have := hz.1; omega) ((Ch.want_at rfl hg7 f10).trans rfl) (ev_move rfl f13) ?_
        intro a2 z2 e2 k2
        have f14 := e2
        replace f1 := (k2 1 (by decide)).trans f1
        replace f6 := (k2 6 (by decide)).trans f6
        replace f10 := (k2 10 (by decide)).trans f10
        clear f13
        replace hz := z2 hz
        clear e2 k2 z2
        refine op_ev (v := .pointer (some ⟨g, 2, none⟩)) rfl (by have := hz.1; omega) ((Ch.want_at rfl hg11 f14).trans rfl) (ev_field rfl f1 pf2) ?_
        intro a2 z2 e2 k2
        have f15 := e2
        replace f1 := (k2 1 (by decide)).trans f1
        replace f6 := (k2 6 (by decide)).trans f6
        replace f10 := (k2 10 (by decide)).trans f10
        replace f14 := (k2 14 (by decide)).trans f14
        replace hz := z2 hz
        clear e2 k2 z2
        refine op_ev (v := .int .i64 p.within) rfl (by have := hz.1; omega) ((Ch.want_at rfl hg11 f14).trans rfl) (ev_load rfl f15 (load_int _) (pf_cell (v := .int .i64 p.within) hP rfl)) ?_
        intro a2 z2 e2 k2
        have f16 := e2
        replace f1 := (k2 1 (by decide)).trans f1
        replace f6 := (k2 6 (by decide)).trans f6
        replace f10 := (k2 10 (by decide)).trans f10
        replace f14 := (k2 14 (by decide)).trans f14
        clear f15
        replace hz := z2 hz
        clear e2 k2 z2
        refine op_ev (v := .bool (decide (p.within = 0))) rfl (by have := hz.1; omega) ((Ch.want_at rfl hg11 f14).trans rfl) (ev_bin rfl f16 (eqz _ _)) ?_
        intro a2 z2 e2 k2
        have f17 := e2
        replace f1 := (k2 1 (by decide)).trans f1
        replace f6 := (k2 6 (by decide)).trans f6
        replace f10 := (k2 10 (by decide)).trans f10
        replace f14 := (k2 14 (by decide)).trans f14
        clear f16
        replace hz := z2 hz
        clear e2 k2 z2
        generalize hb3 : decide (p.within = 0) = b3 at f17
        cases b3 with
        | true =>
          refine op_ev (v := .bool true) rfl (by have := hz.1; omega) ((Ch.want_at rfl hg7 f10).trans rfl) (ev_pick (c := true) (u := .bool true) rfl f14 (fun q => f17)) ?_
          intro a2 z2 e2 k2
          have f18 := e2
          replace f1 := (k2 1 (by decide)).trans f1
          replace f6 := (k2 6 (by decide)).trans f6
          replace f10 := (k2 10 (by decide)).trans f10
          clear f14
          clear f17
          replace hz := z2 hz
          clear e2 k2 z2
          refine op_ev (v := .bool true) rfl (by have := hz.1; omega) ((Ch.want_at rfl hg3 f6).trans rfl) (ev_pick_or (c := false) (u := .bool true) rfl f10 (fun q => f18)) ?_
          intro a2 z2 e2 k2
          have f19 := e2
          replace f1 := (k2 1 (by decide)).trans f1
          replace f6 := (k2 6 (by decide)).trans f6
          clear f10
          clear f18
          replace hz := z2 hz
          clear e2 k2 z2
          refine op_ev (v := .bool true) rfl (by have := hz.1; omega) rfl (ev_pick (c := true) (u := .bool true) rfl f6 (fun q => f19)) ?_
          intro a2 z2 e2 k2
          have f20 := e2
          replace f1 := (k2 1 (by decide)).trans f1
          clear f6
          clear f19
          replace hz := z2 hz
          clear e2 k2 z2
          exact h _ _ (Below.refl _ _) hz f1 (by rw [f20]; first | rfl | simp_all)
        | false =>
          refine op_ev (v := .bool false) rfl (by have := hz.1; omega) ((Ch.want_at rfl hg7 f10).trans rfl) (ev_pick (c := true) (u := .bool false) rfl f14 (fun q => f17)) ?_
          intro a2 z2 e2 k2
          have f18 := e2
          replace f1 := (k2 1 (by decide)).trans f1
          replace f6 := (k2 6 (by decide)).trans f6
          replace f10 := (k2 10 (by decide)).trans f10
          clear f14
          clear f17
          replace hz := z2 hz
          clear e2 k2 z2
          refine op_ev (v := .bool false) rfl (by have := hz.1; omega) ((Ch.want_at rfl hg3 f6).trans rfl) (ev_pick_or (c := false) (u := .bool false) rfl f10 (fun q => f18)) ?_
          intro a2 z2 e2 k2
          have f19 := e2
          replace f1 := (k2 1 (by decide)).trans f1
          replace f6 := (k2 6 (by decide)).trans f6
          clear f10
          clear f18
          replace hz := z2 hz
          clear e2 k2 z2
          refine op_ev (v := .bool false) rfl (by have := hz.1; omega) rfl (ev_pick (c := true) (u := .bool false) rfl f6 (fun q => f19)) ?_
          intro a2 z2 e2 k2
          have f20 := e2
          replace f1 := (k2 1 (by decide)).trans f1
          clear f6
          clear f19
          replace hz := z2 hz
          clear e2 k2 z2
          exact h _ _ (Below.refl _ _) hz f1 (by rw [f20]; first | rfl | simp_all)
      | false =>
        refine op_ev (v := .bool false) rfl (by have := hz.1; omega) ((Ch.want_at rfl hg7 f10).trans rfl) (ev_move rfl f13) ?_
        intro a2 z2 e2 k2
        have f14 := e2
        replace f1 := (k2 1 (by decide)).trans f1
        replace f6 := (k2 6 (by decide)).trans f6
        replace f10 := (k2 10 (by decide)).trans f10
        clear f13
        replace hz := z2 hz
        clear e2 k2 z2
        refine op_off rfl (by have := hz.1; omega) ((Ch.want_at rfl hg11 f14).trans rfl) ?_
        intro a2 z2 e2 k2
        have f15 := e2
        replace f1 := (k2 1 (by decide)).trans f1
        replace f6 := (k2 6 (by decide)).trans f6
        replace f10 := (k2 10 (by decide)).trans f10
        replace f14 := (k2 14 (by decide)).trans f14
        replace hz := z2 hz
        clear e2 k2 z2
        refine op_off rfl (by have := hz.1; omega) ((Ch.want_at rfl hg11 f14).trans rfl) ?_
        intro a2 z2 e2 k2
        have f16 := e2
        replace f1 := (k2 1 (by decide)).trans f1
        replace f6 := (k2 6 (by decide)).trans f6
        replace f10 := (k2 10 (by decide)).trans f10
        replace f14 := (k2 14 (by decide)).trans f14
        clear f15
        replace hz := z2 hz
        clear e2 k2 z2
        refine op_off rfl (by have := hz.1; omega) ((Ch.want_at rfl hg11 f14).trans rfl) ?_
        intro a2 z2 e2 k2
        have f17 := e2
        replace f1 := (k2 1 (by decide)).trans f1
        replace f6 := (k2 6 (by decide)).trans f6
        replace f10 := (k2 10 (by decide)).trans f10
        replace f14 := (k2 14 (by decide)).trans f14
        clear f16
        replace hz := z2 hz
        clear e2 k2 z2
        refine op_ev (v := .bool false) rfl (by have := hz.1; omega) ((Ch.want_at rfl hg7 f10).trans rfl) (ev_pick (c := false) (u := undef) rfl f14 (fun q => Bool.noConfusion q)) ?_
        intro a2 z2 e2 k2
        have f18 := e2
        replace f1 := (k2 1 (by decide)).trans f1
        replace f6 := (k2 6 (by decide)).trans f6
        replace f10 := (k2 10 (by decide)).trans f10
        clear f14
        clear f17
        replace hz := z2 hz
        clear e2 k2 z2
        refine op_ev (v := .bool false) rfl (by have := hz.1; omega) ((Ch.want_at rfl hg3 f6).trans rfl) (ev_pick_or (c := false) (u := .bool false) rfl f10 (fun q => f18)) ?_
        intro a2 z2 e2 k2
        have f19 := e2
        replace f1 := (k2 1 (by decide)).trans f1
        replace f6 := (k2 6 (by decide)).trans f6
        clear f10
        clear f18
        replace hz := z2 hz
        clear e2 k2 z2
        refine op_ev (v := .bool false) rfl (by have := hz.1; omega) rfl (ev_pick (c := true) (u := .bool false) rfl f6 (fun q => f19)) ?_
        intro a2 z2 e2 k2
        have f20 := e2
        replace f1 := (k2 1 (by decide)).trans f1
        clear f6
        clear f19
        replace hz := z2 hz
        clear e2 k2 z2
        exact h _ _ (Below.refl _ _) hz f1 (by rw [f20]; first | rfl | simp_all)
  | false =>
    refine op_ev (v := .bool false) rfl (by have := hz.1; omega) rfl (ev_move rfl f5) ?_
    intro a2 z2 e2 k2
    have f6 := e2
    replace f1 := (k2 1 (by decide)).trans f1
    clear f5
    replace hz := z2 hz
    clear e2 k2 z2
    refine op_off rfl (by have := hz.1; omega) ((Ch.want_at rfl hg3 f6).trans rfl) ?_
    intro a2 z2 e2 k2
    have f7 := e2
    replace f1 := (k2 1 (by decide)).trans f1
    replace f6 := (k2 6 (by decide)).trans f6
    replace hz := z2 hz
    clear e2 k2 z2
    refine op_off rfl (by have := hz.1; omega) ((Ch.want_at rfl hg3 f6).trans rfl) ?_
    intro a2 z2 e2 k2
    have f8 := e2
    replace f1 := (k2 1 (by decide)).trans f1
    replace f6 := (k2 6 (by decide)).trans f6
    clear f7
    replace hz := z2 hz
    clear e2 k2 z2
    refine op_off rfl (by have := hz.1; omega) ((Ch.want_at rfl hg3 f6).trans rfl) ?_
    intro a2 z2 e2 k2
    have f9 := e2
    replace f1 := (k2 1 (by decide)).trans f1
    replace f6 := (k2 6 (by decide)).trans f6
    clear f8
    replace hz := z2 hz
    clear e2 k2 z2
    refine op_off rfl (by have := hz.1; omega) ((Ch.want_at rfl hg3 f6).trans rfl) ?_
    intro a2 z2 e2 k2
    have f10 := e2
    replace f1 := (k2 1 (by decide)).trans f1
    replace f6 := (k2 6 (by decide)).trans f6
    clear f9
    replace hz := z2 hz
    clear e2 k2 z2
    refine op_off rfl (by have := hz.1; omega) (Ch.want_undef rfl hg7 f10) ?_
    intro a2 z2 e2 k2
    have f11 := e2
    replace f1 := (k2 1 (by decide)).trans f1
    replace f6 := (k2 6 (by decide)).trans f6
    replace f10 := (k2 10 (by decide)).trans f10
    replace hz := z2 hz
    clear e2 k2 z2
    refine op_off rfl (by have := hz.1; omega) (Ch.want_undef rfl hg7 f10) ?_
    intro a2 z2 e2 k2
    have f12 := e2
    replace f1 := (k2 1 (by decide)).trans f1
    replace f6 := (k2 6 (by decide)).trans f6
    replace f10 := (k2 10 (by decide)).trans f10
    clear f11
    replace hz := z2 hz
    clear e2 k2 z2
    refine op_off rfl (by have := hz.1; omega) (Ch.want_undef rfl hg7 f10) ?_
    intro a2 z2 e2 k2
    have f13 := e2
    replace f1 := (k2 1 (by decide)).trans f1
    replace f6 := (k2 6 (by decide)).trans f6
    replace f10 := (k2 10 (by decide)).trans f10
    clear f12
    replace hz := z2 hz
    clear e2 k2 z2
    refine op_off rfl (by have := hz.1; omega) (Ch.want_undef rfl hg7 f10) ?_
    intro a2 z2 e2 k2
    have f14 := e2
    replace f1 := (k2 1 (by decide)).trans f1
    replace f6 := (k2 6 (by decide)).trans f6
    replace f10 := (k2 10 (by decide)).trans f10
    clear f13
    replace hz := z2 hz
    clear e2 k2 z2
    refine op_off rfl (by have := hz.1; omega) (Ch.want_undef rfl hg11 f14) ?_
    intro a2 z2 e2 k2
    have f15 := e2
    replace f1 := (k2 1 (by decide)).trans f1
    replace f6 := (k2 6 (by decide)).trans f6
    replace f10 := (k2 10 (by decide)).trans f10
    replace f14 := (k2 14 (by decide)).trans f14
    replace hz := z2 hz
    clear e2 k2 z2
    refine op_off rfl (by have := hz.1; omega) (Ch.want_undef rfl hg11 f14) ?_
    intro a2 z2 e2 k2
    have f16 := e2
    replace f1 := (k2 1 (by decide)).trans f1
    replace f6 := (k2 6 (by decide)).trans f6
    replace f10 := (k2 10 (by decide)).trans f10
    replace f14 := (k2 14 (by decide)).trans f14
    clear f15
    replace hz := z2 hz
    clear e2 k2 z2
    refine op_off rfl (by have := hz.1; omega) (Ch.want_undef rfl hg11 f14) ?_
    intro a2 z2 e2 k2
    have f17 := e2
    replace f1 := (k2 1 (by decide)).trans f1
    replace f6 := (k2 6 (by decide)).trans f6
    replace f10 := (k2 10 (by decide)).trans f10
    replace f14 := (k2 14 (by decide)).trans f14
    clear f16
    replace hz := z2 hz
    clear e2 k2 z2
    refine op_off rfl (by have := hz.1; omega) (Ch.want_undef rfl hg7 f10) ?_
    intro a2 z2 e2 k2
    have f18 := e2
    replace f1 := (k2 1 (by decide)).trans f1
    replace f6 := (k2 6 (by decide)).trans f6
    replace f10 := (k2 10 (by decide)).trans f10
    clear f14
    clear f17
    replace hz := z2 hz
    clear e2 k2 z2
    refine op_off rfl (by have := hz.1; omega) ((Ch.want_at rfl hg3 f6).trans rfl) ?_
    intro a2 z2 e2 k2
    have f19 := e2
    replace f1 := (k2 1 (by decide)).trans f1
    replace f6 := (k2 6 (by decide)).trans f6
    clear f10
    clear f18
    replace hz := z2 hz
    clear e2 k2 z2
    refine op_ev (v := .bool false) rfl (by have := hz.1; omega) rfl (ev_pick (c := false) (u := undef) rfl f6 (fun q => Bool.noConfusion q)) ?_
    intro a2 z2 e2 k2
    have f20 := e2
    replace f1 := (k2 1 (by decide)).trans f1
    clear f6
    clear f19
    replace hz := z2 hz
    clear e2 k2 z2
    exact h _ _ (Below.refl _ _) hz f1 (by rw [f20]; first | rfl | simp_all)
set_option maxRecDepth 100000 in
theorem range_and {ops : Array Oper} {Q : Exit → Act → World → Prop} {rest : List Oper} {w : World} {a : Act} {g : Nat} {p : Pf} {ta : Option Addr} {tc : Nat} {ty48 ty49 ty50 ty51 ty52 ty53 ty54 ty55 ty56 ty57 ty58 ty59 ty60 ty61 ty62 ty63 ty64 ty65 ty66 ty67 ty68 ty69 : TypeId} {po48 po49 po50 po51 po52 po53 po54 po55 po56 po57 po58 po59 po60 po61 po62 po63 po64 po65 po66 po67 po68 po69 : String} {af48 af49 af50 af51 af52 af53 af54 af55 af56 af57 af58 af59 af60 af61 af62 af63 af64 af65 af66 af67 af68 af69 : Array Edge} {ats68 : Array TypeId}
    {c : Bool} (hz : Fr a) (f1 : a.tmps[1]? = some (.pointer (some ⟨g, 0, none⟩))) (f50 : a.tmps[50]? = some (.bool c)) (hP : w.heap[g]? = some (.cells (pfC p (.slice ta p.types.length tc)) 24)) 
    (hg48 : (ops[48]?).bind (·.dst) = some 51)
    (h : ∀ a' w', Below w.heap.size w w' → Fr a' → a'.tmps[1]? = some (.pointer (some ⟨g, 0, none⟩)) → a'.tmps[72]? = some (.bool (c && inB [p.within, p.size, p.parts, p.files, p.bytes, p.rate, p.down, p.window, p.keep])) → wpList Tryz.prog ops Q rest a' w') :
    wpList Tryz.prog ops Q ({ dst := some 51, op := .move (.tmp 50), type := ty48, pos := po48, after := af48, guard := none } :: { dst := some 52, op := .fieldAddr 24 (.tmp 1) 2, type := ty49, pos := po49, after := af49, guard := some (48, true) } :: { dst := some 53, op := .load 3 (.tmp 52), type := ty50, pos := po50, after := af50, guard := some (48, true) } :: { dst := some 54, op := .fieldAddr 24 (.tmp 1) 8, type := ty51, pos := po51, after := af51, guard := some (48, true) } :: { dst := some 55, op := .load 3 (.tmp 54), type := ty52, pos := po52, after := af52, guard := some (48, true) } :: { dst := some 56, op := .fieldAddr 24 (.tmp 1) 9, type := ty53, pos := po53, after := af53, guard := some (48, true) } :: { dst := some 57, op := .load 3 (.tmp 56), type := ty54, pos := po54, after := af54, guard := some (48, true) } :: { dst := some 58, op := .fieldAddr 24 (.tmp 1) 10, type := ty55, pos := po55, after := af55, guard := some (48, true) } :: { dst := some 59, op := .load 3 (.tmp 58), type := ty56, pos := po56, after := af56, guard := some (48, true) } :: { dst := some 60, op := .fieldAddr 24 (.tmp 1) 11, type := ty57, pos := po57, after := af57, guard := some (48, true) } :: { dst := some 61, op := .load 3 (.tmp 60), type := ty58, pos := po58, after := af58, guard := some (48, true) } :: { dst := some 62, op := .fieldAddr 24 (.tmp 1) 18, type := ty59, pos := po59, after := af59, guard := some (48, true) } :: { dst := some 63, op := .load 3 (.tmp 62), type := ty60, pos := po60, after := af60, guard := some (48, true) } :: { dst := some 64, op := .fieldAddr 24 (.tmp 1) 19, type := ty61, pos := po61, after := af61, guard := some (48, true) } :: { dst := some 65, op := .load 3 (.tmp 64), type := ty62, pos := po62, after := af62, guard := some (48, true) } :: { dst := some 66, op := .fieldAddr 24 (.tmp 1) 20, type := ty63, pos := po63, after := af63, guard := some (48, true) } :: { dst := some 67, op := .load 3 (.tmp 66), type := ty64, pos := po64, after := af64, guard := some (48, true) } :: { dst := some 68, op := .fieldAddr 24 (.tmp 1) 21, type := ty65, pos := po65, after := af65, guard := some (48, true) } :: { dst := some 69, op := .load 3 (.tmp 68), type := ty66, pos := po66, after := af66, guard := some (48, true) } :: { dst := some 70, op := .buildSlice 80 9 #[(0, .tmp 53), (1, .tmp 55), (2, .tmp 57), (3, .tmp 59), (4, .tmp 61), (5, .tmp 63), (6, .tmp 65), (7, .tmp 67), (8, .tmp 69)], type := ty67, pos := po67, after := af67, guard := some (48, true) } :: { dst := some 71, op := .call { callee := .value (.func 33), args := #[.tmp 70], argTypes := ats68 }, type := ty68, pos := po68, after := af68, guard := some (48, true) } :: { dst := some 72, op := .pick (.tmp 51) (.tmp 71) (.const (.bool false)), type := ty69, pos := po69, after := af69, guard := none } :: rest) a w := by
  cases c with
  | true =>
    refine op_ev (v := .bool true) rfl (by have := hz.1; omega) rfl (ev_move rfl f50) ?_
    intro a2 z2 e2 k2
    have f51 := e2
    replace f1 := (k2 1 (by decide)).trans f1
    clear f50
    replace hz := z2 hz
    clear e2 k2 z2
    refine op_ev (v := .pointer (some ⟨g, 2, none⟩)) rfl (by have := hz.1; omega) ((Ch.want_at rfl hg48 f51).trans rfl) (ev_field rfl f1 pf2) ?_
    intro a2 z2 e2 k2
    have f52 := e2
    replace f1 := (k2 1 (by decide)).trans f1
    replace f51 := (k2 51 (by decide)).trans f51
    replace hz := z2 hz
    clear e2 k2 z2
    refine op_ev (v := .int .i64 p.within) rfl (by have := hz.1; omega) ((Ch.want_at rfl hg48 f51).trans rfl) (ev_load rfl f52 (load_int _) (pf_cell (v := .int .i64 p.within) hP rfl)) ?_
    intro a2 z2 e2 k2
    have f53 := e2
    replace f1 := (k2 1 (by decide)).trans f1
    replace f51 := (k2 51 (by decide)).trans f51
    clear f52
    replace hz := z2 hz
    clear e2 k2 z2
    refine op_ev (v := .pointer (some ⟨g, 8, none⟩)) rfl (by have := hz.1; omega) ((Ch.want_at rfl hg48 f51).trans rfl) (ev_field rfl f1 pf8) ?_
    intro a2 z2 e2 k2
    have f54 := e2
    replace f1 := (k2 1 (by decide)).trans f1
    replace f51 := (k2 51 (by decide)).trans f51
    replace f53 := (k2 53 (by decide)).trans f53
    replace hz := z2 hz
    clear e2 k2 z2
    refine op_ev (v := .int .i64 p.size) rfl (by have := hz.1; omega) ((Ch.want_at rfl hg48 f51).trans rfl) (ev_load rfl f54 (load_int _) (pf_cell (v := .int .i64 p.size) hP rfl)) ?_
    intro a2 z2 e2 k2
    have f55 := e2
    replace f1 := (k2 1 (by decide)).trans f1
    replace f51 := (k2 51 (by decide)).trans f51
    replace f53 := (k2 53 (by decide)).trans f53
    clear f54
    replace hz := z2 hz
    clear e2 k2 z2
    refine op_ev (v := .pointer (some ⟨g, 9, none⟩)) rfl (by have := hz.1; omega) ((Ch.want_at rfl hg48 f51).trans rfl) (ev_field rfl f1 pf9) ?_
    intro a2 z2 e2 k2
    have f56 := e2
    replace f1 := (k2 1 (by decide)).trans f1
    replace f51 := (k2 51 (by decide)).trans f51
    replace f53 := (k2 53 (by decide)).trans f53
    replace f55 := (k2 55 (by decide)).trans f55
    replace hz := z2 hz
    clear e2 k2 z2
    refine op_ev (v := .int .i64 p.parts) rfl (by have := hz.1; omega) ((Ch.want_at rfl hg48 f51).trans rfl) (ev_load rfl f56 (load_int _) (pf_cell (v := .int .i64 p.parts) hP rfl)) ?_
    intro a2 z2 e2 k2
    have f57 := e2
    replace f1 := (k2 1 (by decide)).trans f1
    replace f51 := (k2 51 (by decide)).trans f51
    replace f53 := (k2 53 (by decide)).trans f53
    replace f55 := (k2 55 (by decide)).trans f55
    clear f56
    replace hz := z2 hz
    clear e2 k2 z2
    refine op_ev (v := .pointer (some ⟨g, 10, none⟩)) rfl (by have := hz.1; omega) ((Ch.want_at rfl hg48 f51).trans rfl) (ev_field rfl f1 pf10) ?_
    intro a2 z2 e2 k2
    have f58 := e2
    replace f1 := (k2 1 (by decide)).trans f1
    replace f51 := (k2 51 (by decide)).trans f51
    replace f53 := (k2 53 (by decide)).trans f53
    replace f55 := (k2 55 (by decide)).trans f55
    replace f57 := (k2 57 (by decide)).trans f57
    replace hz := z2 hz
    clear e2 k2 z2
    refine op_ev (v := .int .i64 p.files) rfl (by have := hz.1; omega) ((Ch.want_at rfl hg48 f51).trans rfl) (ev_load rfl f58 (load_int _) (pf_cell (v := .int .i64 p.files) hP rfl)) ?_
    intro a2 z2 e2 k2
    have f59 := e2
    replace f1 := (k2 1 (by decide)).trans f1
    replace f51 := (k2 51 (by decide)).trans f51
    replace f53 := (k2 53 (by decide)).trans f53
    replace f55 := (k2 55 (by decide)).trans f55
    replace f57 := (k2 57 (by decide)).trans f57
    clear f58
    replace hz := z2 hz
    clear e2 k2 z2
    refine op_ev (v := .pointer (some ⟨g, 11, none⟩)) rfl (by have := hz.1; omega) ((Ch.want_at rfl hg48 f51).trans rfl) (ev_field rfl f1 pf11) ?_
    intro a2 z2 e2 k2
    have f60 := e2
    replace f1 := (k2 1 (by decide)).trans f1
    replace f51 := (k2 51 (by decide)).trans f51
    replace f53 := (k2 53 (by decide)).trans f53
    replace f55 := (k2 55 (by decide)).trans f55
    replace f57 := (k2 57 (by decide)).trans f57
    replace f59 := (k2 59 (by decide)).trans f59
    replace hz := z2 hz
    clear e2 k2 z2
    refine op_ev (v := .int .i64 p.bytes) rfl (by have := hz.1; omega) ((Ch.want_at rfl hg48 f51).trans rfl) (ev_load rfl f60 (load_int _) (pf_cell (v := .int .i64 p.bytes) hP rfl)) ?_
    intro a2 z2 e2 k2
    have f61 := e2
    replace f1 := (k2 1 (by decide)).trans f1
    replace f51 := (k2 51 (by decide)).trans f51
    replace f53 := (k2 53 (by decide)).trans f53
    replace f55 := (k2 55 (by decide)).trans f55
    replace f57 := (k2 57 (by decide)).trans f57
    replace f59 := (k2 59 (by decide)).trans f59
    clear f60
    replace hz := z2 hz
    clear e2 k2 z2
    refine op_ev (v := .pointer (some ⟨g, 18, none⟩)) rfl (by have := hz.1; omega) ((Ch.want_at rfl hg48 f51).trans rfl) (ev_field rfl f1 pf18) ?_
    intro a2 z2 e2 k2
    have f62 := e2
    replace f1 := (k2 1 (by decide)).trans f1
    replace f51 := (k2 51 (by decide)).trans f51
    replace f53 := (k2 53 (by decide)).trans f53
    replace f55 := (k2 55 (by decide)).trans f55
    replace f57 := (k2 57 (by decide)).trans f57
    replace f59 := (k2 59 (by decide)).trans f59
    replace f61 := (k2 61 (by decide)).trans f61
    replace hz := z2 hz
    clear e2 k2 z2
    refine op_ev (v := .int .i64 p.rate) rfl (by have := hz.1; omega) ((Ch.want_at rfl hg48 f51).trans rfl) (ev_load rfl f62 (load_int _) (pf_cell (v := .int .i64 p.rate) hP rfl)) ?_
    intro a2 z2 e2 k2
    have f63 := e2
    replace f1 := (k2 1 (by decide)).trans f1
    replace f51 := (k2 51 (by decide)).trans f51
    replace f53 := (k2 53 (by decide)).trans f53
    replace f55 := (k2 55 (by decide)).trans f55
    replace f57 := (k2 57 (by decide)).trans f57
    replace f59 := (k2 59 (by decide)).trans f59
    replace f61 := (k2 61 (by decide)).trans f61
    clear f62
    replace hz := z2 hz
    clear e2 k2 z2
    refine op_ev (v := .pointer (some ⟨g, 19, none⟩)) rfl (by have := hz.1; omega) ((Ch.want_at rfl hg48 f51).trans rfl) (ev_field rfl f1 pf19) ?_
    intro a2 z2 e2 k2
    have f64 := e2
    replace f1 := (k2 1 (by decide)).trans f1
    replace f51 := (k2 51 (by decide)).trans f51
    replace f53 := (k2 53 (by decide)).trans f53
    replace f55 := (k2 55 (by decide)).trans f55
    replace f57 := (k2 57 (by decide)).trans f57
    replace f59 := (k2 59 (by decide)).trans f59
    replace f61 := (k2 61 (by decide)).trans f61
    replace f63 := (k2 63 (by decide)).trans f63
    replace hz := z2 hz
    clear e2 k2 z2
    refine op_ev (v := .int .i64 p.down) rfl (by have := hz.1; omega) ((Ch.want_at rfl hg48 f51).trans rfl) (ev_load rfl f64 (load_int _) (pf_cell (v := .int .i64 p.down) hP rfl)) ?_
    intro a2 z2 e2 k2
    have f65 := e2
    replace f1 := (k2 1 (by decide)).trans f1
    replace f51 := (k2 51 (by decide)).trans f51
    replace f53 := (k2 53 (by decide)).trans f53
    replace f55 := (k2 55 (by decide)).trans f55
    replace f57 := (k2 57 (by decide)).trans f57
    replace f59 := (k2 59 (by decide)).trans f59
    replace f61 := (k2 61 (by decide)).trans f61
    replace f63 := (k2 63 (by decide)).trans f63
    clear f64
    replace hz := z2 hz
    clear e2 k2 z2
    refine op_ev (v := .pointer (some ⟨g, 20, none⟩)) rfl (by have := hz.1; omega) ((Ch.want_at rfl hg48 f51).trans rfl) (ev_field rfl f1 pf20) ?_
    intro a2 z2 e2 k2
    have f66 := e2
    replace f1 := (k2 1 (by decide)).trans f1
    replace f51 := (k2 51 (by decide)).trans f51
    replace f53 := (k2 53 (by decide)).trans f53
    replace f55 := (k2 55 (by decide)).trans f55
    replace f57 := (k2 57 (by decide)).trans f57
    replace f59 := (k2 59 (by decide)).trans f59
    replace f61 := (k2 61 (by decide)).trans f61
    replace f63 := (k2 63 (by decide)).trans f63
    replace f65 := (k2 65 (by decide)).trans f65
    replace hz := z2 hz
    clear e2 k2 z2
    refine op_ev (v := .int .i64 p.window) rfl (by have := hz.1; omega) ((Ch.want_at rfl hg48 f51).trans rfl) (ev_load rfl f66 (load_int _) (pf_cell (v := .int .i64 p.window) hP rfl)) ?_
    intro a2 z2 e2 k2
    have f67 := e2
    replace f1 := (k2 1 (by decide)).trans f1
    replace f51 := (k2 51 (by decide)).trans f51
    replace f53 := (k2 53 (by decide)).trans f53
    replace f55 := (k2 55 (by decide)).trans f55
    replace f57 := (k2 57 (by decide)).trans f57
    replace f59 := (k2 59 (by decide)).trans f59
    replace f61 := (k2 61 (by decide)).trans f61
    replace f63 := (k2 63 (by decide)).trans f63
    replace f65 := (k2 65 (by decide)).trans f65
    clear f66
    replace hz := z2 hz
    clear e2 k2 z2
    refine op_ev (v := .pointer (some ⟨g, 21, none⟩)) rfl (by have := hz.1; omega) ((Ch.want_at rfl hg48 f51).trans rfl) (ev_field rfl f1 pf21) ?_
    intro a2 z2 e2 k2
    have f68 := e2
    replace f1 := (k2 1 (by decide)).trans f1
    replace f51 := (k2 51 (by decide)).trans f51
    replace f53 := (k2 53 (by decide)).trans f53
    replace f55 := (k2 55 (by decide)).trans f55
    replace f57 := (k2 57 (by decide)).trans f57
    replace f59 := (k2 59 (by decide)).trans f59
    replace f61 := (k2 61 (by decide)).trans f61
    replace f63 := (k2 63 (by decide)).trans f63
    replace f65 := (k2 65 (by decide)).trans f65
    replace f67 := (k2 67 (by decide)).trans f67
    replace hz := z2 hz
    clear e2 k2 z2
    refine op_ev (v := .int .i64 p.keep) rfl (by have := hz.1; omega) ((Ch.want_at rfl hg48 f51).trans rfl) (ev_load rfl f68 (load_int _) (pf_cell (v := .int .i64 p.keep) hP rfl)) ?_
    intro a2 z2 e2 k2
    have f69 := e2
    replace f1 := (k2 1 (by decide)).trans f1
    replace f51 := (k2 51 (by decide)).trans f51
    replace f53 := (k2 53 (by decide)).trans f53
    replace f55 := (k2 55 (by decide)).trans f55
    replace f57 := (k2 57 (by decide)).trans f57
    replace f59 := (k2 59 (by decide)).trans f59
    replace f61 := (k2 61 (by decide)).trans f61
    replace f63 := (k2 63 (by decide)).trans f63
    replace f65 := (k2 65 (by decide)).trans f65
    replace f67 := (k2 67 (by decide)).trans f67
    clear f68
    replace hz := z2 hz
    clear e2 k2 z2
    refine op_evw (v := .slice (some ⟨w.heap.size, 0, none⟩) 9 9) (w' := (w.alloc (.cells ([p.within, p.size, p.parts, p.files, p.bytes, p.rate, p.down, p.window, p.keep].map fun z => Value.int .i64 z).toArray 3))) rfl (by have := hz.1; omega) ((Ch.want_at rfl hg48 f51).trans rfl) (by simp only [execOp, List.map_toArray, List.map_cons, List.map_nil, eval_at f53, eval_at f55, eval_at f57, eval_at f59, eval_at f61, eval_at f63, eval_at f65, eval_at f67, eval_at f69]; go_simp) ?_
    intro a2 z2 e2 k2
    have hn := (MapKept.heap_alloc w (.cells ([p.within, p.size, p.parts, p.files, p.bytes, p.rate, p.down, p.window, p.keep].map fun z => Value.int .i64 z).toArray 3)).1
    have b8 : Below w.heap.size w (w.alloc (.cells ([p.within, p.size, p.parts, p.files, p.bytes, p.rate, p.down, p.window, p.keep].map fun z => Value.int .i64 z).toArray 3)) := (Below.refl _ _).alloc (Nat.le_refl _) _
    have f70 := e2
    replace f1 := (k2 1 (by decide)).trans f1
    replace f51 := (k2 51 (by decide)).trans f51
    clear f53
    clear f55
    clear f57
    clear f59
    clear f61
    clear f63
    clear f65
    clear f67
    clear f69
    replace hz := z2 hz
    clear e2 k2 z2
    refine op_call rfl (by have := hz.1; omega) ((Ch.want_at rfl hg48 f51).trans rfl) (ev_call1 f70 (enters_of Tryz.func33 (by kernel_rfl) rfl)) (p_inrange (l := [p.within, p.size, p.parts, p.files, p.bytes, p.rate, p.down, p.window, p.keep]) hn (by simp)) ?_
    rintro _ _ ⟨rfl, rfl⟩
    refine ⟨_, rfl, ?_⟩
    intro a2 z2 e2 k2
    have f71 := e2
    replace f1 := (k2 1 (by decide)).trans f1
    replace f51 := (k2 51 (by decide)).trans f51
    clear f70
    replace hz := z2 hz
    clear e2 k2 z2
    refine op_ev (v := .bool (inB [p.within, p.size, p.parts, p.files, p.bytes, p.rate, p.down, p.window, p.keep])) rfl (by have := hz.1; omega) rfl (ev_pick (c := true) (u := .bool (inB [p.within, p.size, p.parts, p.files, p.bytes, p.rate, p.down, p.window, p.keep])) rfl f51 (fun q => f71)) ?_
    intro a2 z2 e2 k2
    have f72 := e2
    replace f1 := (k2 1 (by decide)).trans f1
    clear f51
    clear f71
    replace hz := z2 hz
    clear e2 k2 z2
    exact h _ _ (b8) hz f1 (by rw [f72]; first | rfl | simp_all)
  | false =>
    refine op_ev (v := .bool false) rfl (by have := hz.1; omega) rfl (ev_move rfl f50) ?_
    intro a2 z2 e2 k2
    have f51 := e2
    replace f1 := (k2 1 (by decide)).trans f1
    clear f50
    replace hz := z2 hz
    clear e2 k2 z2
    refine op_off rfl (by have := hz.1; omega) ((Ch.want_at rfl hg48 f51).trans rfl) ?_
    intro a2 z2 e2 k2
    have f52 := e2
    replace f1 := (k2 1 (by decide)).trans f1
    replace f51 := (k2 51 (by decide)).trans f51
    replace hz := z2 hz
    clear e2 k2 z2
    refine op_off rfl (by have := hz.1; omega) ((Ch.want_at rfl hg48 f51).trans rfl) ?_
    intro a2 z2 e2 k2
    have f53 := e2
    replace f1 := (k2 1 (by decide)).trans f1
    replace f51 := (k2 51 (by decide)).trans f51
    clear f52
    replace hz := z2 hz
    clear e2 k2 z2
    refine op_off rfl (by have := hz.1; omega) ((Ch.want_at rfl hg48 f51).trans rfl) ?_
    intro a2 z2 e2 k2
    have f54 := e2
    replace f1 := (k2 1 (by decide)).trans f1
    replace f51 := (k2 51 (by decide)).trans f51
    replace f53 := (k2 53 (by decide)).trans f53
    replace hz := z2 hz
    clear e2 k2 z2
    refine op_off rfl (by have := hz.1; omega) ((Ch.want_at rfl hg48 f51).trans rfl) ?_
    intro a2 z2 e2 k2
    have f55 := e2
    replace f1 := (k2 1 (by decide)).trans f1
    replace f51 := (k2 51 (by decide)).trans f51
    replace f53 := (k2 53 (by decide)).trans f53
    clear f54
    replace hz := z2 hz
    clear e2 k2 z2
    refine op_off rfl (by have := hz.1; omega) ((Ch.want_at rfl hg48 f51).trans rfl) ?_
    intro a2 z2 e2 k2
    have f56 := e2
    replace f1 := (k2 1 (by decide)).trans f1
    replace f51 := (k2 51 (by decide)).trans f51
    replace f53 := (k2 53 (by decide)).trans f53
    replace f55 := (k2 55 (by decide)).trans f55
    replace hz := z2 hz
    clear e2 k2 z2
    refine op_off rfl (by have := hz.1; omega) ((Ch.want_at rfl hg48 f51).trans rfl) ?_
    intro a2 z2 e2 k2
    have f57 := e2
    replace f1 := (k2 1 (by decide)).trans f1
    replace f51 := (k2 51 (by decide)).trans f51
    replace f53 := (k2 53 (by decide)).trans f53
    replace f55 := (k2 55 (by decide)).trans f55
    clear f56
    replace hz := z2 hz
    clear e2 k2 z2
    refine op_off rfl (by have := hz.1; omega) ((Ch.want_at rfl hg48 f51).trans rfl) ?_
    intro a2 z2 e2 k2
    have f58 := e2
    replace f1 := (k2 1 (by decide)).trans f1
    replace f51 := (k2 51 (by decide)).trans f51
    replace f53 := (k2 53 (by decide)).trans f53
    replace f55 := (k2 55 (by decide)).trans f55
    replace f57 := (k2 57 (by decide)).trans f57
    replace hz := z2 hz
    clear e2 k2 z2
    refine op_off rfl (by have := hz.1; omega) ((Ch.want_at rfl hg48 f51).trans rfl) ?_
    intro a2 z2 e2 k2
    have f59 := e2
    replace f1 := (k2 1 (by decide)).trans f1
    replace f51 := (k2 51 (by decide)).trans f51
    replace f53 := (k2 53 (by decide)).trans f53
    replace f55 := (k2 55 (by decide)).trans f55
    replace f57 := (k2 57 (by decide)).trans f57
    clear f58
    replace hz := z2 hz
    clear e2 k2 z2
    refine op_off rfl (by have := hz.1; omega) ((Ch.want_at rfl hg48 f51).trans rfl) ?_
    intro a2 z2 e2 k2
    have f60 := e2
    replace f1 := (k2 1 (by decide)).trans f1
    replace f51 := (k2 51 (by decide)).trans f51
    replace f53 := (k2 53 (by decide)).trans f53
    replace f55 := (k2 55 (by decide)).trans f55
    replace f57 := (k2 57 (by decide)).trans f57
    replace f59 := (k2 59 (by decide)).trans f59
    replace hz := z2 hz
    clear e2 k2 z2
    refine op_off rfl (by have := hz.1; omega) ((Ch.want_at rfl hg48 f51).trans rfl) ?_
    intro a2 z2 e2 k2
    have f61 := e2
    replace f1 := (k2 1 (by decide)).trans f1
    replace f51 := (k2 51 (by decide)).trans f51
    replace f53 := (k2 53 (by decide)).trans f53
    replace f55 := (k2 55 (by decide)).trans f55
    replace f57 := (k2 57 (by decide)).trans f57
    replace f59 := (k2 59 (by decide)).trans f59
    clear f60
    replace hz := z2 hz
    clear e2 k2 z2
    refine op_off rfl (by have := hz.1; omega) ((Ch.want_at rfl hg48 f51).trans rfl) ?_
    intro a2 z2 e2 k2
    have f62 := e2
    replace f1 := (k2 1 (by decide)).trans f1
    replace f51 := (k2 51 (by decide)).trans f51
    replace f53 := (k2 53 (by decide)).trans f53
    replace f55 := (k2 55 (by decide)).trans f55
    replace f57 := (k2 57 (by decide)).trans f57
    replace f59 := (k2 59 (by decide)).trans f59
    replace f61 := (k2 61 (by decide)).trans f61
    replace hz := z2 hz
    clear e2 k2 z2
    refine op_off rfl (by have := hz.1; omega) ((Ch.want_at rfl hg48 f51).trans rfl) ?_
    intro a2 z2 e2 k2
    have f63 := e2
    replace f1 := (k2 1 (by decide)).trans f1
    replace f51 := (k2 51 (by decide)).trans f51
    replace f53 := (k2 53 (by decide)).trans f53
    replace f55 := (k2 55 (by decide)).trans f55
    replace f57 := (k2 57 (by decide)).trans f57
    replace f59 := (k2 59 (by decide)).trans f59
    replace f61 := (k2 61 (by decide)).trans f61
    clear f62
    replace hz := z2 hz
    clear e2 k2 z2
    refine op_off rfl (by have := hz.1; omega) ((Ch.want_at rfl hg48 f51).trans rfl) ?_
    intro a2 z2 e2 k2
    have f64 := e2
    replace f1 := (k2 1 (by decide)).trans f1
    replace f51 := (k2 51 (by decide)).trans f51
    replace f53 := (k2 53 (by decide)).trans f53
    replace f55 := (k2 55 (by decide)).trans f55
    replace f57 := (k2 57 (by decide)).trans f57
    replace f59 := (k2 59 (by decide)).trans f59
    replace f61 := (k2 61 (by decide)).trans f61
    replace f63 := (k2 63 (by decide)).trans f63
    replace hz := z2 hz
    clear e2 k2 z2
    refine op_off rfl (by have := hz.1; omega) ((Ch.want_at rfl hg48 f51).trans rfl) ?_
    intro a2 z2 e2 k2
    have f65 := e2
    replace f1 := (k2 1 (by decide)).trans f1
    replace f51 := (k2 51 (by decide)).trans f51
    replace f53 := (k2 53 (by decide)).trans f53
    replace f55 := (k2 55 (by decide)).trans f55
    replace f57 := (k2 57 (by decide)).trans f57
    replace f59 := (k2 59 (by decide)).trans f59
    replace f61 := (k2 61 (by decide)).trans f61
    replace f63 := (k2 63 (by decide)).trans f63
    clear f64
    replace hz := z2 hz
    clear e2 k2 z2
    refine op_off rfl (by have := hz.1; omega) ((Ch.want_at rfl hg48 f51).trans rfl) ?_
    intro a2 z2 e2 k2
    have f66 := e2
    replace f1 := (k2 1 (by decide)).trans f1
    replace f51 := (k2 51 (by decide)).trans f51
    replace f53 := (k2 53 (by decide)).trans f53
    replace f55 := (k2 55 (by decide)).trans f55
    replace f57 := (k2 57 (by decide)).trans f57
    replace f59 := (k2 59 (by decide)).trans f59
    replace f61 := (k2 61 (by decide)).trans f61
    replace f63 := (k2 63 (by decide)).trans f63
    replace f65 := (k2 65 (by decide)).trans f65
    replace hz := z2 hz
    clear e2 k2 z2
    refine op_off rfl (by have := hz.1; omega) ((Ch.want_at rfl hg48 f51).trans rfl) ?_
    intro a2 z2 e2 k2
    have f67 := e2
    replace f1 := (k2 1 (by decide)).trans f1
    replace f51 := (k2 51 (by decide)).trans f51
    replace f53 := (k2 53 (by decide)).trans f53
    replace f55 := (k2 55 (by decide)).trans f55
    replace f57 := (k2 57 (by decide)).trans f57
    replace f59 := (k2 59 (by decide)).trans f59
    replace f61 := (k2 61 (by decide)).trans f61
    replace f63 := (k2 63 (by decide)).trans f63
    replace f65 := (k2 65 (by decide)).trans f65
    clear f66
    replace hz := z2 hz
    clear e2 k2 z2
    refine op_off rfl (by have := hz.1; omega) ((Ch.want_at rfl hg48 f51).trans rfl) ?_
    intro a2 z2 e2 k2
    have f68 := e2
    replace f1 := (k2 1 (by decide)).trans f1
    replace f51 := (k2 51 (by decide)).trans f51
    replace f53 := (k2 53 (by decide)).trans f53
    replace f55 := (k2 55 (by decide)).trans f55
    replace f57 := (k2 57 (by decide)).trans f57
    replace f59 := (k2 59 (by decide)).trans f59
    replace f61 := (k2 61 (by decide)).trans f61
    replace f63 := (k2 63 (by decide)).trans f63
    replace f65 := (k2 65 (by decide)).trans f65
    replace f67 := (k2 67 (by decide)).trans f67
    replace hz := z2 hz
    clear e2 k2 z2
    refine op_off rfl (by have := hz.1; omega) ((Ch.want_at rfl hg48 f51).trans rfl) ?_
    intro a2 z2 e2 k2
    have f69 := e2
    replace f1 := (k2 1 (by decide)).trans f1
    replace f51 := (k2 51 (by decide)).trans f51
    replace f53 := (k2 53 (by decide)).trans f53
    replace f55 := (k2 55 (by decide)).trans f55
    replace f57 := (k2 57 (by decide)).trans f57
    replace f59 := (k2 59 (by decide)).trans f59
    replace f61 := (k2 61 (by decide)).trans f61
    replace f63 := (k2 63 (by decide)).trans f63
    replace f65 := (k2 65 (by decide)).trans f65
    replace f67 := (k2 67 (by decide)).trans f67
    clear f68
    replace hz := z2 hz
    clear e2 k2 z2
    refine op_off rfl (by have := hz.1; omega) ((Ch.want_at rfl hg48 f51).trans rfl) ?_
    intro a2 z2 e2 k2
    have f70 := e2
    replace f1 := (k2 1 (by decide)).trans f1
    replace f51 := (k2 51 (by decide)).trans f51
    clear f53
    clear f55
    clear f57
    clear f59
    clear f61
    clear f63
    clear f65
    clear f67
    clear f69
    replace hz := z2 hz
    clear e2 k2 z2
    refine op_off rfl (by have := hz.1; omega) ((Ch.want_at rfl hg48 f51).trans rfl) ?_
    intro a2 z2 e2 k2
    have f71 := e2
    replace f1 := (k2 1 (by decide)).trans f1
    replace f51 := (k2 51 (by decide)).trans f51
    clear f70
    replace hz := z2 hz
    clear e2 k2 z2
    refine op_ev (v := .bool false) rfl (by have := hz.1; omega) rfl (ev_pick (c := false) (u := undef) rfl f51 (fun q => Bool.noConfusion q)) ?_
    intro a2 z2 e2 k2
    have f72 := e2
    replace f1 := (k2 1 (by decide)).trans f1
    clear f51
    clear f71
    replace hz := z2 hz
    clear e2 k2 z2
    exact h _ _ (Below.refl _ _) hz f1 (by rw [f72]; first | rfl | simp_all)
set_option maxRecDepth 100000 in
theorem files_and {ops : Array Oper} {Q : Exit → Act → World → Prop} {rest : List Oper} {w : World} {a : Act} {g : Nat} {p : Pf} {ta : Option Addr} {tc : Nat} {ty70 ty71 ty72 ty73 : TypeId} {po70 po71 po72 po73 : String} {af70 af71 af72 af73 : Array Edge} {ats72 : Array TypeId}
    {c : Bool} (hz : Fr a) (f1 : a.tmps[1]? = some (.pointer (some ⟨g, 0, none⟩))) (f72 : a.tmps[72]? = some (.bool c)) (hP : w.heap[g]? = some (.cells (pfC p (.slice ta p.types.length tc)) 24)) (hF : Calls Tryz.prog 34 #[.agg (pfC p (.slice ta p.types.length tc))] w (Reads w (.bool (decide (filesOk p)))))
    (hg70 : (ops[70]?).bind (·.dst) = some 73)
    (h : ∀ a' w', Below w.heap.size w w' → Fr a' → a'.tmps[1]? = some (.pointer (some ⟨g, 0, none⟩)) → a'.tmps[76]? = some (.bool (c && decide (filesOk p))) → wpList Tryz.prog ops Q rest a' w') :
    wpList Tryz.prog ops Q ({ dst := some 73, op := .move (.tmp 72), type := ty70, pos := po70, after := af70, guard := none } :: { dst := some 74, op := .load 24 (.tmp 1), type := ty71, pos := po71, after := af71, guard := some (70, true) } :: { dst := some 75, op := .call { callee := .value (.func 34), args := #[.tmp 74], argTypes := ats72 }, type := ty72, pos := po72, after := af72, guard := some (70, true) } :: { dst := some 76, op := .pick (.tmp 73) (.tmp 75) (.const (.bool false)), type := ty73, pos := po73, after := af73, guard := none } :: rest) a w := by
  cases c with
  | true =>
    refine op_ev (v := .bool true) rfl (by have := hz.1; omega) rfl (ev_move rfl f72) ?_
    intro a2 z2 e2 k2
    have f73 := e2
    replace f1 := (k2 1 (by decide)).trans f1
    clear f72
    replace hz := z2 hz
    clear e2 k2 z2
    refine op_ev (v := .agg (pfC p (.slice ta p.types.length tc))) rfl (by have := hz.1; omega) ((Ch.want_at rfl hg70 f73).trans rfl) (ev_whole rfl f1 hP Tryz.underlying24 rfl (by kernel_rfl)) ?_
    intro a2 z2 e2 k2
    have f74 := e2
    replace f1 := (k2 1 (by decide)).trans f1
    replace f73 := (k2 73 (by decide)).trans f73
    replace hz := z2 hz
    clear e2 k2 z2
    refine op_call rfl (by have := hz.1; omega) ((Ch.want_at rfl hg70 f73).trans rfl) (ev_call1 f74 (enters_of Tryz.func34 (by kernel_rfl) rfl)) hF ?_
    rintro _ w9 ⟨rfl, b9⟩
    refine ⟨_, rfl, ?_⟩
    intro a2 z2 e2 k2
    have f75 := e2
    replace f1 := (k2 1 (by decide)).trans f1
    replace f73 := (k2 73 (by decide)).trans f73
    clear f74
    replace hz := z2 hz
    clear e2 k2 z2
    refine op_ev (v := .bool (decide (filesOk p))) rfl (by have := hz.1; omega) rfl (ev_pick (c := true) (u := .bool (decide (filesOk p))) rfl f73 (fun q => f75)) ?_
    intro a2 z2 e2 k2
    have f76 := e2
    replace f1 := (k2 1 (by decide)).trans f1
    clear f73
    clear f75
    replace hz := z2 hz
    clear e2 k2 z2
    exact h _ _ (b9) hz f1 (by rw [f76]; first | rfl | simp_all)
  | false =>
    refine op_ev (v := .bool false) rfl (by have := hz.1; omega) rfl (ev_move rfl f72) ?_
    intro a2 z2 e2 k2
    have f73 := e2
    replace f1 := (k2 1 (by decide)).trans f1
    clear f72
    replace hz := z2 hz
    clear e2 k2 z2
    refine op_off rfl (by have := hz.1; omega) ((Ch.want_at rfl hg70 f73).trans rfl) ?_
    intro a2 z2 e2 k2
    have f74 := e2
    replace f1 := (k2 1 (by decide)).trans f1
    replace f73 := (k2 73 (by decide)).trans f73
    replace hz := z2 hz
    clear e2 k2 z2
    refine op_off rfl (by have := hz.1; omega) ((Ch.want_at rfl hg70 f73).trans rfl) ?_
    intro a2 z2 e2 k2
    have f75 := e2
    replace f1 := (k2 1 (by decide)).trans f1
    replace f73 := (k2 73 (by decide)).trans f73
    clear f74
    replace hz := z2 hz
    clear e2 k2 z2
    refine op_ev (v := .bool false) rfl (by have := hz.1; omega) rfl (ev_pick (c := false) (u := undef) rfl f73 (fun q => Bool.noConfusion q)) ?_
    intro a2 z2 e2 k2
    have f76 := e2
    replace f1 := (k2 1 (by decide)).trans f1
    clear f73
    clear f75
    replace hz := z2 hz
    clear e2 k2 z2
    exact h _ _ (Below.refl _ _) hz f1 (by rw [f76]; first | rfl | simp_all)
theorem num_and {ops : Array Oper} {Q : Exit → Act → World → Prop} {rest : List Oper} {w : World} {a : Act} {g gi f s s0 s1 s2 s3 s4 row : Nat} {ty0 ty1 ty2 ty3 ty4 : TypeId} {po0 po1 po2 po3 po4 : String} {af0 af1 af2 af3 af4 : Array Edge} {ats : Array TypeId} {c : Bool} {n : Int} {T : List S}
    (ho : s0 + 1 = s1 ∧ s1 + 1 = s2 ∧ s2 + 1 = s3 ∧ s3 + 1 = s4 ∧ 1 < s0 ∧ s4 < 77 ∧ s ≠ 1) (hz : Fr a) (f1 : a.tmps[1]? = some (.pointer (some ⟨g, 0, none⟩))) (fs : a.tmps[s]? = some (.bool c)) (hg : (ops[gi]?).bind (·.dst) = some s0)
    (hF : FieldIs Tryz.prog 24 f f) (hc : w.cell? ⟨g, f, none⟩ = some (.int .i64 n)) (hC : Calls Tryz.prog 32 #[.int .i64 row, .int .i64 n] w fun e w' => e = .returned (.bool (numB T n)) ∧ w = w')
    (h : ∀ a', Fr a' → a'.tmps[1]? = some (.pointer (some ⟨g, 0, none⟩)) → a'.tmps[s4]? = some (.bool (c && numB T n)) → wpList Tryz.prog ops Q rest a' w) :
    wpList Tryz.prog ops Q ({ dst := some s0, op := .move (.tmp s), type := ty0, pos := po0, after := af0, guard := none } :: { dst := some s1, op := .fieldAddr 24 (.tmp 1) f, type := ty1, pos := po1, after := af1, guard := some (gi, true) } :: { dst := some s2, op := .load 3 (.tmp s1), type := ty2, pos := po2, after := af2, guard := some (gi, true) } :: { dst := some s3, op := .call { callee := .value (.func 32), args := #[.const (.int .i64 row), .tmp s2], argTypes := ats }, type := ty3, pos := po3, after := af3, guard := some (gi, true) } :: { dst := some s4, op := .pick (.tmp s0) (.tmp s3) (.const (.bool false)), type := ty4, pos := po4, after := af4, guard := none } :: rest) a w := by
  obtain ⟨h1, h2, h3, h4, h5, h6, h7⟩ := ho
  refine op_ev (v := .bool c) rfl (by have := hz.1; omega) rfl (ev_move rfl fs) ?_
  intro a2 z2 e2 k2
  replace f1 := (k2 1 (by omega)).trans f1
  replace hz := z2 hz
  have f0 := e2
  clear e2 k2 z2 fs
  cases c with
  | false =>
    refine op_off rfl (by have := hz.1; omega) ((Ch.want_at rfl hg f0).trans rfl) ?_
    intro a2 z2 e2 k2
    replace f1 := (k2 _ (by omega)).trans f1
    replace f0 := (k2 _ (by omega)).trans f0
    replace hz := z2 hz
    clear e2 k2 z2
    refine op_off rfl (by have := hz.1; omega) ((Ch.want_at rfl hg f0).trans rfl) ?_
    intro a2 z2 e2 k2
    replace f1 := (k2 _ (by omega)).trans f1
    replace f0 := (k2 _ (by omega)).trans f0
    replace hz := z2 hz
    clear e2 k2 z2
    refine op_off rfl (by have := hz.1; omega) ((Ch.want_at rfl hg f0).trans rfl) ?_
    intro a2 z2 e2 k2
    replace f1 := (k2 _ (by omega)).trans f1
    replace f0 := (k2 _ (by omega)).trans f0
    replace hz := z2 hz
    clear e2 k2 z2
    refine op_ev (v := .bool false) rfl (by have := hz.1; omega) rfl (ev_pick (u := undef) (c := false) rfl f0 (fun q => Bool.noConfusion q)) ?_
    intro a2 z2 e2 k2
    replace f1 := (k2 _ (by omega)).trans f1
    exact h _ (z2 hz) f1 e2
  | true =>
    refine op_ev (v := .pointer (some ⟨g, f, none⟩)) rfl (by have := hz.1; omega) ((Ch.want_at rfl hg f0).trans rfl) (ev_field rfl f1 hF) ?_
    intro a2 z2 e2 k2
    replace f1 := (k2 _ (by omega)).trans f1
    replace f0 := (k2 _ (by omega)).trans f0
    replace hz := z2 hz
    have f2 := e2
    clear e2 k2 z2
    refine op_ev (v := .int .i64 n) rfl (by have := hz.1; omega) ((Ch.want_at rfl hg f0).trans rfl) (ev_load rfl f2 (load_int _) hc) ?_
    intro a2 z2 e2 k2
    replace f1 := (k2 _ (by omega)).trans f1
    replace f0 := (k2 _ (by omega)).trans f0
    replace hz := z2 hz
    have f3 := e2
    clear e2 k2 z2 f2
    refine op_call rfl (by have := hz.1; omega) ((Ch.want_at rfl hg f0).trans rfl) (ev_callK f3 (enters_of Tryz.func32 (by kernel_rfl) rfl)) hC ?_
    rintro _ _ ⟨rfl, rfl⟩
    refine ⟨_, rfl, ?_⟩
    intro a2 z2 e2 k2
    replace f1 := (k2 _ (by omega)).trans f1
    replace f0 := (k2 _ (by omega)).trans f0
    replace hz := z2 hz
    have f4 := e2
    clear e2 k2 z2 f3
    refine op_ev (v := .bool (numB T n)) rfl (by have := hz.1; omega) rfl (ev_pick (u := .bool (numB T n)) (c := true) rfl f0 (fun _ => f4)) ?_
    intro a2 z2 e2 k2
    replace f1 := (k2 _ (by omega)).trans f1
    exact h _ (z2 hz) f1 e2
def rightB (p : Pf) : Bool := ((((((((wordOk p.name && (decide (p.edit = 2) || (decide (p.edit = 0) && decide (p.within = 0)))) && numB deW p.delete) && numB thW p.thread) && numB joW p.join) && numB hiW p.history) && numB reW p.remove) && numB leW p.level) && inB [p.within, p.size, p.parts, p.files, p.bytes, p.rate, p.down, p.window, p.keep]) && decide (filesOk p)
theorem numB_iff {T : List S} {n : Int} {m : Int} (h : (T.length : Int) = m + 1) : numB T n = true ↔ within n 0 m := by
  unfold numB within
  rw [decide_eq_true_iff]
  omega
theorem rightB_eq (p : Pf) : rightB p = decide (Rt p) := by
  refine Bool.eq_iff_iff.2 ?_
  rw [decide_eq_true_iff]
  unfold rightB Rt kinds numbers
  simp only [Bool.and_eq_true, Bool.or_eq_true, decide_eq_true_eq, numB_iff (T := deW) (m := 2) (by decide), numB_iff (T := thW) (m := 2) (by decide), numB_iff (T := joW) (m := 2) (by decide), numB_iff (T := hiW) (m := 1) (by decide), numB_iff (T := reW) (m := 1) (by decide), numB_iff (T := leW) (m := 4) (by decide), inB]
  simp only [List.mem_cons, List.not_mem_nil, or_false, forall_eq_or_imp, forall_eq, within]
  constructor
  · rintro ⟨⟨⟨⟨⟨⟨⟨⟨⟨a, b⟩, c1⟩, c2⟩, c3⟩, c4⟩, c5⟩, c6⟩, d⟩, f⟩
    exact ⟨⟨by omega, c1, c2, c3, c4, c5, c6⟩, ⟨d.1, d.2.1, d.2.2.1, d.2.2.2.1, d.2.2.2.2.1, d.2.2.2.2.2.1, d.2.2.2.2.2.2.1, d.2.2.2.2.2.2.2.1, d.2.2.2.2.2.2.2.2⟩, a, by omega, f⟩
  · rintro ⟨⟨e, c1, c2, c3, c4, c5, c6⟩, d, a, b, f⟩
    refine ⟨⟨⟨⟨⟨⟨⟨⟨⟨a, ?_⟩, c1⟩, c2⟩, c3⟩, c4⟩, c5⟩, c6⟩, d⟩, f⟩
    rcases e with e | e
    · exact .inr ⟨e, b e⟩
    · exact .inl e
set_option maxHeartbeats 4000000 in
set_option maxRecDepth 100000 in
theorem p_right {w : World} {x : Value} {p : Pf} (hE : Env w) (hx : PfAt w x p) (hf : fewP p = true) : Calls Tryz.prog 11 #[x] w (Reads w (.bool (decide (Rt p)))) := by
  obtain ⟨tv, rfl, ht⟩ := hx
  obtain ⟨ta, tc, rfl⟩ := ht.slice
  have hfw := of_decide_eq_true hf
  have hnm : p.name.length ≤ 100000 := by omega
  have hl1 : p.types.length ≤ 1000 := by omega
  have hw1 : ∀ z ∈ p.types, z.length ≤ 1000 := fun z hz => by have := hfw.2.2 z hz; omega
  have b1 : Below w.heap.size w (w.alloc (.cells (pfC p (.slice ta p.types.length tc)) 24)) := (Below.refl _ _).alloc (Nat.le_refl _) _
  have HB := Lib.hid b1
  have HE := Lib.hid (hE.keep b1)
  have HP := Lib.hid (MapKept.heap_alloc w (.cells (pfC p (.slice ta p.types.length tc)) 24)).1
  have HT := Lib.hid (ht.keep b1)
  clear b1 ht hf hfw hE
  go_enter Tryz.func11, Tryz.ntmps11
  go_upto_region 0 with fail
  refine wp_region_lit ?_
  refine list_evw (v := .pointer (some ⟨w.heap.size, 0, none⟩)) (w' := w.alloc (.cells (pfC p (.slice ta p.types.length tc)) 24)) rfl (ev_box rfl rfl) ?_
  simp only [Act.put, List.setIfInBounds_toArray, List.set_cons_zero, List.set_cons_succ]
  generalize w.alloc (.cells (pfC p (.slice ta p.types.length tc)) 24) = w1 at *
  generalize pfV p (.slice ta p.types.length tc) = xv
  obtain ⟨g, hg⟩ : ∃ g, g = w.heap.size := ⟨_, rfl⟩
  rw [← hg] at HP
  rw [← hg]
  clear hg
  refine list_ev (v := .bool false) rfl (by go_simp) ?_
  simp only [Act.put, List.setIfInBounds_toArray, List.set_cons_zero, List.set_cons_succ]
  go_upto_region 1 with fail
  refine wp_region_lit ?_
  refine op_ev (v := .pointer (some ⟨g, 0, none⟩)) rfl (by simp) rfl (ev_field rfl rfl pf0) ?_
  intro a z2 e2 k2
  have f1 : a.tmps[1]? = some (.pointer (some ⟨g, 0, none⟩)) := (k2 1 (by decide)).trans rfl
  have hz : Fr a := z2 ⟨by simp, rfl⟩
  have f3 := e2
  clear e2 k2 z2
  refine op_ev (v := .string (bs p.name)) rfl (by have := hz.1; omega) rfl (ev_load rfl f3 (load_str _) (pf_cell (v := .string (bs p.name)) HP.out rfl)) ?_
  intro a2 z2 e2 k2
  replace f1 := (k2 1 (by decide)).trans f1
  replace hz := z2 hz
  have f4 := e2
  clear e2 k2 z2 f3
  refine op_call rfl (by have := hz.1; omega) rfl (ev_call1 f4 (enters_of Tryz.func31 (by kernel_rfl) rfl)) (p_word hnm) ?_
  rintro _ _ ⟨rfl, rfl⟩
  refine ⟨_, rfl, ?_⟩
  intro a2 z2 e2 k2
  replace f1 := (k2 1 (by decide)).trans f1
  replace hz := z2 hz
  have f5 := e2
  clear e2 k2 z2 f4
  refine edit_and hz f1 f5 HP.out rfl rfl rfl ?_
  intro a3 w3 b3 hz f1 fc
  replace HP := Lib.hid ((b3.block _ (lt_heap HP.out)).trans HP.out)
  replace HB := Lib.hid (HB.out.trans (b3.mono HB.out.size))
  replace HT := Lib.hid (HT.out.keep b3)
  replace HE := Lib.hid (HE.out.keep b3)
  refine num_and (by decide) hz f1 fc rfl pf3 (pf_cell (v := .int .i64 p.delete) HP.out rfl) (p_isnum (row := 0) (T := deW) HE.out rfl _) ?_
  intro a4 hz f1 fc
  refine num_and (by decide) hz f1 fc rfl pf5 (pf_cell (v := .int .i64 p.thread) HP.out rfl) (p_isnum (row := 1) (T := thW) HE.out rfl _) ?_
  intro a5 hz f1 fc
  refine num_and (by decide) hz f1 fc rfl pf13 (pf_cell (v := .int .i64 p.join) HP.out rfl) (p_isnum (row := 2) (T := joW) HE.out rfl _) ?_
  intro a6 hz f1 fc
  refine num_and (by decide) hz f1 fc rfl pf14 (pf_cell (v := .int .i64 p.history) HP.out rfl) (p_isnum (row := 3) (T := hiW) HE.out rfl _) ?_
  intro a7 hz f1 fc
  refine num_and (by decide) hz f1 fc rfl pf15 (pf_cell (v := .int .i64 p.remove) HP.out rfl) (p_isnum (row := 4) (T := reW) HE.out rfl _) ?_
  intro a8 hz f1 fc
  refine num_and (by decide) hz f1 fc rfl pf16 (pf_cell (v := .int .i64 p.level) HP.out rfl) (p_isnum (row := 5) (T := leW) HE.out rfl _) ?_
  intro a9 hz f1 fc
  refine range_and hz f1 fc HP.out rfl ?_
  intro a10 w10 b10 hz f1 fc
  replace HP := Lib.hid ((b10.block _ (lt_heap HP.out)).trans HP.out)
  replace HB := Lib.hid (HB.out.trans (b10.mono HB.out.size))
  replace HT := Lib.hid (HT.out.keep b10)
  replace HE := Lib.hid (HE.out.keep b10)
  refine files_and hz f1 fc HP.out (p_files (p := p) ⟨_, rfl, HT.out⟩ hl1 hw1) rfl ?_
  intro a11 w11 b11 hz f1 fc
  replace HB := Lib.hid (HB.out.trans (b11.mono HB.out.size))
  have HR := Lib.hid (rightB_eq p)
  have fr : a11.tmps[76]? = some (.bool (rightB p)) := fc
  clear fc
  refine op_ev (v := .bool (rightB p)) rfl (by have := hz.1; omega) rfl (ev_assign rfl fr) ?_
  intro a12 z2 e2 k2
  replace hz := z2 hz
  have hd : a12.defers = [] := hz.2
  have h2 : a12.tmps.getD 2 undef = .bool (rightB p) := by simp [Array.getD_eq_getD_getElem?, e2]
  clear fr f1 k2 z2 e2 hz
  go_wp2
  refine bodyPost_ret (v := .bool (rightB p)) (by rw [← h2]; exact results_tmp rfl _ _ _) hd ⟨ret_bool HR.out, HB.out⟩
end Go.Proofs.YtlefgffnjcmfoaaGreatDoor
namespace Go.Proofs.YtlefgffnjcmfoaaGreatDoor
open Go.RowKit Go.Maps Go.ChangeMaps Go.MapKept
open Lx Sy Ch
attribute [local go_sem ↓] Go.wp_at_zero Go.wp_at_succ
def headB (p q : Pf) : Bool := (((((((((((decide (p.name = q.name) && decide (p.edit = q.edit)) && decide (p.within = q.within)) && decide (p.delete = q.delete)) && decide (p.react = q.react)) && decide (p.thread = q.thread)) && decide (p.quote = q.quote)) && decide (p.mention = q.mention)) && decide (p.size = q.size)) && decide (p.parts = q.parts)) && decide (p.files = q.files)) && decide (p.bytes = q.bytes))
def restB (c : Bool) (p q : Pf) : Bool := (((((((((c && decide (p.join = q.join)) && decide (p.history = q.history)) && decide (p.remove = q.remove)) && decide (p.level = q.level)) && decide (p.batch = q.batch)) && decide (p.rate = q.rate)) && decide (p.down = q.down)) && decide (p.window = q.window)) && decide (p.keep = q.keep))
theorem headB_iff {p q : Pf} : headB p q = true ↔ p.name = q.name ∧ p.edit = q.edit ∧ p.within = q.within ∧ p.delete = q.delete ∧ p.react = q.react ∧ p.thread = q.thread ∧ p.quote = q.quote ∧ p.mention = q.mention ∧ p.size = q.size ∧ p.parts = q.parts ∧ p.files = q.files ∧ p.bytes = q.bytes := by simp only [headB, Bool.and_eq_true, decide_eq_true_eq, and_assoc]
theorem restB_iff {c : Bool} {p q : Pf} : restB c p q = true ↔ c = true ∧ p.join = q.join ∧ p.history = q.history ∧ p.remove = q.remove ∧ p.level = q.level ∧ p.batch = q.batch ∧ p.rate = q.rate ∧ p.down = q.down ∧ p.window = q.window ∧ p.keep = q.keep := by simp only [restB, Bool.and_eq_true, decide_eq_true_eq, and_assoc]
theorem same_no {p q : Pf} (h : headB p q = false) : restB false p q = decide (p = q) := by
  have h1 : restB false p q = false := by
    cases hr : restB false p q with
    | false => rfl
    | true => have := (restB_iff.1 hr).1; cases this
  rw [h1]
  refine (decide_eq_false fun e => ?_).symm
  subst e
  have : headB p p = true := headB_iff.2 (by simp)
  rw [h] at this; cases this
theorem same_yes {p q : Pf} (h : headB p q = true) : restB (decide (p.types = q.types)) p q = decide (p = q) := by
  refine Bool.eq_iff_iff.2 ⟨fun h2 => decide_eq_true ?_, fun h2 => ?_⟩
  · obtain ⟨a0, a1, a2, a3, a4, a5, a6, a7, a8, a9, a10, a11⟩ := headB_iff.1 h
    obtain ⟨b12, a13, a14, a15, a16, a17, a18, a19, a20, a21⟩ := restB_iff.1 h2
    have a12 : p.types = q.types := of_decide_eq_true b12
    clear h h2 b12
    cases p; cases q
    simp only at a0 a1 a2 a3 a4 a5 a6 a7 a8 a9 a10 a11 a12 a13 a14 a15 a16 a17 a18 a19 a20 a21
    subst a0 a1 a2 a3 a4 a5 a6 a7 a8 a9 a10 a11 a12 a13 a14 a15 a16 a17 a18 a19 a20 a21
    rfl
  · have e := of_decide_eq_true h2
    subst e
    exact restB_iff.2 (by simp)
set_option maxHeartbeats 4000000 in
set_option maxRecDepth 100000 in
theorem p_same {w : World} {x y : Value} {p q : Pf} (hx : PfAt w x p) (hy : PfAt w y q) (hl : p.types.length ≤ 100000) (hm : q.types.length ≤ 100000) : Calls Tryz.prog 13 #[x, y] w (Reads w (.bool (decide (p = q)))) := by
  obtain ⟨tv, rfl, ht⟩ := hx
  obtain ⟨uv, rfl, hu⟩ := hy
  obtain ⟨ta, tc, rfl⟩ := ht.slice
  obtain ⟨ua, uc, rfl⟩ := hu.slice
  have b1 : Below w.heap.size w ((w.alloc (.cells (pfC p (.slice ta p.types.length tc)) 24)).alloc (.cells (pfC q (.slice ua q.types.length uc)) 24)) := ((Below.refl _ _).alloc (Nat.le_refl _) _).alloc (by simp) _
  have HB := Lib.hid b1
  have h1 : ((w.alloc (.cells (pfC p (.slice ta p.types.length tc)) 24)).alloc (.cells (pfC q (.slice ua q.types.length uc)) 24)).heap[w.heap.size]? = some (.cells (pfC p (.slice ta p.types.length tc)) 24) := (Below.heap_alloc _ _ _ (by simp)).trans (MapKept.heap_alloc w _).1
  have h2 : ((w.alloc (.cells (pfC p (.slice ta p.types.length tc)) 24)).alloc (.cells (pfC q (.slice ua q.types.length uc)) 24)).heap[w.heap.size + 1]? = some (.cells (pfC q (.slice ua q.types.length uc)) 24) := by
    have := (MapKept.heap_alloc (w.alloc (.cells (pfC p (.slice ta p.types.length tc)) 24)) (.cells (pfC q (.slice ua q.types.length uc)) 24)).1
    simpa using this
  have HP := Lib.hid h1
  have HQ := Lib.hid h2
  have HT := Lib.hid (ht.keep b1)
  have HU := Lib.hid (hu.keep b1)
  clear h1 h2 b1 ht hu
  go_enter Tryz.func13, Tryz.ntmps13
  go_upto_region 0 with fail
  refine wp_region_lit ?_
  refine list_evw (v := .pointer (some ⟨w.heap.size, 0, none⟩)) (w' := w.alloc (.cells (pfC p (.slice ta p.types.length tc)) 24)) rfl (ev_box rfl rfl) ?_
  simp only [Act.put, List.setIfInBounds_toArray, List.set_cons_zero, List.set_cons_succ]
  refine list_evw (v := .pointer (some ⟨w.heap.size + 1, 0, none⟩)) (w' := (w.alloc (.cells (pfC p (.slice ta p.types.length tc)) 24)).alloc (.cells (pfC q (.slice ua q.types.length uc)) 24)) rfl (ev_box' rfl rfl (by simp)) ?_
  simp only [Act.put, List.setIfInBounds_toArray, List.set_cons_zero, List.set_cons_succ]
  generalize (w.alloc (.cells (pfC p (.slice ta p.types.length tc)) 24)).alloc (.cells (pfC q (.slice ua q.types.length uc)) 24) = w1 at *
  generalize pfV p (.slice ta p.types.length tc) = xv
  generalize pfV q (.slice ua q.types.length uc) = yv
  obtain ⟨g, hg⟩ : ∃ g, g = w.heap.size := ⟨_, rfl⟩
  obtain ⟨k, hk⟩ : ∃ k, k = w.heap.size + 1 := ⟨_, rfl⟩
  rw [← hg] at HP
  rw [← hk] at HQ
  rw [← hk, ← hg]
  clear hg hk
  refine list_ev (v := .bool false) rfl (by go_simp) ?_
  simp only [Act.put, List.setIfInBounds_toArray, List.set_cons_zero, List.set_cons_succ]
  go_upto_region 1 with fail
  refine wp_region_lit ?_
  refine chain_first (by decide) (by simp) rfl rfl (pf0) (load_str _) (load_str _) (eql_str _ _) (pf_cell (v := .string (bs p.name)) HP.out rfl) (pf_cell (v := .string (bs q.name)) HQ.out rfl) ?_
  intro v1 v2 v3 v4
  simp only [Act.put, List.setIfInBounds_toArray, List.set_cons_zero, List.set_cons_succ]
  refine chain_field (by decide) (by simp) rfl rfl rfl rfl (pf1) (load_int _) (load_int _) (eql_int _ _) (pf_cell (v := .int .i64 p.edit) HP.out rfl) (pf_cell (v := .int .i64 q.edit) HQ.out rfl) ?_
  intro v1 v2 v3 v4 v5
  simp only [Act.put, List.setIfInBounds_toArray, List.set_cons_zero, List.set_cons_succ]
  refine chain_field (by decide) (by simp) rfl rfl rfl rfl (pf2) (load_int _) (load_int _) (eql_int _ _) (pf_cell (v := .int .i64 p.within) HP.out rfl) (pf_cell (v := .int .i64 q.within) HQ.out rfl) ?_
  intro v1 v2 v3 v4 v5
  simp only [Act.put, List.setIfInBounds_toArray, List.set_cons_zero, List.set_cons_succ]
  refine chain_field (by decide) (by simp) rfl rfl rfl rfl (pf3) (load_int _) (load_int _) (eql_int _ _) (pf_cell (v := .int .i64 p.delete) HP.out rfl) (pf_cell (v := .int .i64 q.delete) HQ.out rfl) ?_
  intro v1 v2 v3 v4 v5
  simp only [Act.put, List.setIfInBounds_toArray, List.set_cons_zero, List.set_cons_succ]
  refine chain_field (by decide) (by simp) rfl rfl rfl rfl (pf4) (load_bool _) (load_bool _) (eql_bool _ _) (pf_cell (v := .bool p.react) HP.out rfl) (pf_cell (v := .bool q.react) HQ.out rfl) ?_
  intro v1 v2 v3 v4 v5
  simp only [Act.put, List.setIfInBounds_toArray, List.set_cons_zero, List.set_cons_succ]
  refine chain_field (by decide) (by simp) rfl rfl rfl rfl (pf5) (load_int _) (load_int _) (eql_int _ _) (pf_cell (v := .int .i64 p.thread) HP.out rfl) (pf_cell (v := .int .i64 q.thread) HQ.out rfl) ?_
  intro v1 v2 v3 v4 v5
  simp only [Act.put, List.setIfInBounds_toArray, List.set_cons_zero, List.set_cons_succ]
  refine chain_field (by decide) (by simp) rfl rfl rfl rfl (pf6) (load_bool _) (load_bool _) (eql_bool _ _) (pf_cell (v := .bool p.quote) HP.out rfl) (pf_cell (v := .bool q.quote) HQ.out rfl) ?_
  intro v1 v2 v3 v4 v5
  simp only [Act.put, List.setIfInBounds_toArray, List.set_cons_zero, List.set_cons_succ]
  refine chain_field (by decide) (by simp) rfl rfl rfl rfl (pf7) (load_bool _) (load_bool _) (eql_bool _ _) (pf_cell (v := .bool p.mention) HP.out rfl) (pf_cell (v := .bool q.mention) HQ.out rfl) ?_
  intro v1 v2 v3 v4 v5
  simp only [Act.put, List.setIfInBounds_toArray, List.set_cons_zero, List.set_cons_succ]
  refine chain_field (by decide) (by simp) rfl rfl rfl rfl (pf8) (load_int _) (load_int _) (eql_int _ _) (pf_cell (v := .int .i64 p.size) HP.out rfl) (pf_cell (v := .int .i64 q.size) HQ.out rfl) ?_
  intro v1 v2 v3 v4 v5
  simp only [Act.put, List.setIfInBounds_toArray, List.set_cons_zero, List.set_cons_succ]
  refine chain_field (by decide) (by simp) rfl rfl rfl rfl (pf9) (load_int _) (load_int _) (eql_int _ _) (pf_cell (v := .int .i64 p.parts) HP.out rfl) (pf_cell (v := .int .i64 q.parts) HQ.out rfl) ?_
  intro v1 v2 v3 v4 v5
  simp only [Act.put, List.setIfInBounds_toArray, List.set_cons_zero, List.set_cons_succ]
  refine chain_field (by decide) (by simp) rfl rfl rfl rfl (pf10) (load_int _) (load_int _) (eql_int _ _) (pf_cell (v := .int .i64 p.files) HP.out rfl) (pf_cell (v := .int .i64 q.files) HQ.out rfl) ?_
  intro v1 v2 v3 v4 v5
  simp only [Act.put, List.setIfInBounds_toArray, List.set_cons_zero, List.set_cons_succ]
  refine chain_field (by decide) (by simp) rfl rfl rfl rfl (pf11) (load_int _) (load_int _) (eql_int _ _) (pf_cell (v := .int .i64 p.bytes) HP.out rfl) (pf_cell (v := .int .i64 q.bytes) HQ.out rfl) ?_
  intro v1 v2 v3 v4 v5
  simp only [Act.put, List.setIfInBounds_toArray, List.set_cons_zero, List.set_cons_succ]
  rw [show (((((((((((decide (p.name = q.name) && decide (p.edit = q.edit)) && decide (p.within = q.within)) && decide (p.delete = q.delete)) && decide (p.react = q.react)) && decide (p.thread = q.thread)) && decide (p.quote = q.quote)) && decide (p.mention = q.mention)) && decide (p.size = q.size)) && decide (p.parts = q.parts)) && decide (p.files = q.files)) && decide (p.bytes = q.bytes)) = headB p q from rfl]
  cases hh : headB p q with
  | false =>
    have HR := Lib.hid (same_no hh)
    clear hh
    refine list_ev (v := .bool false) rfl (ev_move rfl rfl) ?_
    simp only [Act.put, List.setIfInBounds_toArray, List.set_cons_zero, List.set_cons_succ]
    refine list_off ((Ch.want_at rfl rfl rfl).trans rfl) ?_
    simp only [Act.put, List.setIfInBounds_toArray, List.set_cons_zero, List.set_cons_succ]
    refine list_off ((Ch.want_at rfl rfl rfl).trans rfl) ?_
    simp only [Act.put, List.setIfInBounds_toArray, List.set_cons_zero, List.set_cons_succ]
    refine list_off ((Ch.want_at rfl rfl rfl).trans rfl) ?_
    simp only [Act.put, List.setIfInBounds_toArray, List.set_cons_zero, List.set_cons_succ]
    refine list_off ((Ch.want_at rfl rfl rfl).trans rfl) ?_
    simp only [Act.put, List.setIfInBounds_toArray, List.set_cons_zero, List.set_cons_succ]
    refine list_off ((Ch.want_at rfl rfl rfl).trans rfl) ?_
    simp only [Act.put, List.setIfInBounds_toArray, List.set_cons_zero, List.set_cons_succ]
    refine list_ev (v := .bool false) rfl (by go_simp) ?_
    simp only [Act.put, List.setIfInBounds_toArray, List.set_cons_zero, List.set_cons_succ]
    refine chain_field (by decide) (by simp) rfl rfl rfl rfl (pf13) (load_int _) (load_int _) (eql_int _ _) (pf_cell (v := .int .i64 p.join) HP.out rfl) (pf_cell (v := .int .i64 q.join) HQ.out rfl) ?_
    intro v1 v2 v3 v4 v5
    simp only [Act.put, List.setIfInBounds_toArray, List.set_cons_zero, List.set_cons_succ]
    refine chain_field (by decide) (by simp) rfl rfl rfl rfl (pf14) (load_int _) (load_int _) (eql_int _ _) (pf_cell (v := .int .i64 p.history) HP.out rfl) (pf_cell (v := .int .i64 q.history) HQ.out rfl) ?_
    intro v1 v2 v3 v4 v5
    simp only [Act.put, List.setIfInBounds_toArray, List.set_cons_zero, List.set_cons_succ]
    refine chain_field (by decide) (by simp) rfl rfl rfl rfl (pf15) (load_int _) (load_int _) (eql_int _ _) (pf_cell (v := .int .i64 p.remove) HP.out rfl) (pf_cell (v := .int .i64 q.remove) HQ.out rfl) ?_
    intro v1 v2 v3 v4 v5
    simp only [Act.put, List.setIfInBounds_toArray, List.set_cons_zero, List.set_cons_succ]
    refine chain_field (by decide) (by simp) rfl rfl rfl rfl (pf16) (load_int _) (load_int _) (eql_int _ _) (pf_cell (v := .int .i64 p.level) HP.out rfl) (pf_cell (v := .int .i64 q.level) HQ.out rfl) ?_
    intro v1 v2 v3 v4 v5
    simp only [Act.put, List.setIfInBounds_toArray, List.set_cons_zero, List.set_cons_succ]
    refine chain_field (by decide) (by simp) rfl rfl rfl rfl (pf17) (load_bool _) (load_bool _) (eql_bool _ _) (pf_cell (v := .bool p.batch) HP.out rfl) (pf_cell (v := .bool q.batch) HQ.out rfl) ?_
    intro v1 v2 v3 v4 v5
    simp only [Act.put, List.setIfInBounds_toArray, List.set_cons_zero, List.set_cons_succ]
    refine chain_field (by decide) (by simp) rfl rfl rfl rfl (pf18) (load_int _) (load_int _) (eql_int _ _) (pf_cell (v := .int .i64 p.rate) HP.out rfl) (pf_cell (v := .int .i64 q.rate) HQ.out rfl) ?_
    intro v1 v2 v3 v4 v5
    simp only [Act.put, List.setIfInBounds_toArray, List.set_cons_zero, List.set_cons_succ]
    refine chain_field (by decide) (by simp) rfl rfl rfl rfl (pf19) (load_int _) (load_int _) (eql_int _ _) (pf_cell (v := .int .i64 p.down) HP.out rfl) (pf_cell (v := .int .i64 q.down) HQ.out rfl) ?_
    intro v1 v2 v3 v4 v5
    simp only [Act.put, List.setIfInBounds_toArray, List.set_cons_zero, List.set_cons_succ]
    refine chain_field (by decide) (by simp) rfl rfl rfl rfl (pf20) (load_int _) (load_int _) (eql_int _ _) (pf_cell (v := .int .i64 p.window) HP.out rfl) (pf_cell (v := .int .i64 q.window) HQ.out rfl) ?_
    intro v1 v2 v3 v4 v5
    simp only [Act.put, List.setIfInBounds_toArray, List.set_cons_zero, List.set_cons_succ]
    refine chain_field (by decide) (by simp) rfl rfl rfl rfl (pf21) (load_int _) (load_int _) (eql_int _ _) (pf_cell (v := .int .i64 p.keep) HP.out rfl) (pf_cell (v := .int .i64 q.keep) HQ.out rfl) ?_
    intro v1 v2 v3 v4 v5
    simp only [Act.put, List.setIfInBounds_toArray, List.set_cons_zero, List.set_cons_succ]
    rw [show (((((((((false && decide (p.join = q.join)) && decide (p.history = q.history)) && decide (p.remove = q.remove)) && decide (p.level = q.level)) && decide (p.batch = q.batch)) && decide (p.rate = q.rate)) && decide (p.down = q.down)) && decide (p.window = q.window)) && decide (p.keep = q.keep)) = restB false p q from rfl]
    generalize hz : restB false p q = z
    have HZ := Lib.hid (hz.symm.trans HR.out)
    clear hz
    go_wp2
    go_ret
    exact ⟨ret_bool HZ.out, HB.out⟩
  | true =>
    have HR := Lib.hid (same_yes hh)
    clear hh
    refine list_ev (v := .bool true) rfl (ev_move rfl rfl) ?_
    simp only [Act.put, List.setIfInBounds_toArray, List.set_cons_zero, List.set_cons_succ]
    refine list_ev (v := .pointer (some ⟨g, 12, none⟩)) ((Ch.want_at rfl rfl rfl).trans rfl) (ev_field rfl rfl pf12) ?_
    simp only [Act.put, List.setIfInBounds_toArray, List.set_cons_zero, List.set_cons_succ]
    refine list_ev (v := .slice ta p.types.length tc) ((Ch.want_at rfl rfl rfl).trans rfl) (ev_load rfl rfl (load_sl _ _ _) (pf_cell HP.out rfl)) ?_
    simp only [Act.put, List.setIfInBounds_toArray, List.set_cons_zero, List.set_cons_succ]
    refine list_ev (v := .pointer (some ⟨k, 12, none⟩)) ((Ch.want_at rfl rfl rfl).trans rfl) (ev_field rfl rfl pf12) ?_
    simp only [Act.put, List.setIfInBounds_toArray, List.set_cons_zero, List.set_cons_succ]
    refine list_ev (v := .slice ua q.types.length uc) ((Ch.want_at rfl rfl rfl).trans rfl) (ev_load rfl rfl (load_sl _ _ _) (pf_cell HQ.out rfl)) ?_
    simp only [Act.put, List.setIfInBounds_toArray, List.set_cons_zero, List.set_cons_succ]
    refine list_callP ((Ch.want_at rfl rfl rfl).trans rfl) (ev_call2 rfl rfl (enters_of Tryz.func37 (by kernel_rfl) rfl)) (equal_any HT.out HU.out hl hm) ?_
    rintro e2 w2 ⟨rfl, b2⟩
    refine ⟨_, rfl, ?_⟩
    simp only [Act.put, List.setIfInBounds_toArray, List.set_cons_zero, List.set_cons_succ]
    replace HP := Lib.hid (show w2.heap[g]? = _ from (b2.block _ (lt_heap HP.out)).trans HP.out)
    replace HQ := Lib.hid (show w2.heap[k]? = _ from (b2.block _ (lt_heap HQ.out)).trans HQ.out)
    replace HB := Lib.hid (HB.out.trans (b2.mono HB.out.size))
    clear b2
    generalize hdt : decide (p.types = q.types) = dt
    rw [hdt] at HR
    clear hdt
    refine list_ev (v := .bool dt) rfl (ev_pick (u := .bool dt) (c := true) rfl rfl (fun _ => rfl)) ?_
    simp only [Act.put, List.setIfInBounds_toArray, List.set_cons_zero, List.set_cons_succ]
    refine chain_field (by decide) (by simp) rfl rfl rfl rfl (pf13) (load_int _) (load_int _) (eql_int _ _) (pf_cell (v := .int .i64 p.join) HP.out rfl) (pf_cell (v := .int .i64 q.join) HQ.out rfl) ?_
    intro v1 v2 v3 v4 v5
    simp only [Act.put, List.setIfInBounds_toArray, List.set_cons_zero, List.set_cons_succ]
    refine chain_field (by decide) (by simp) rfl rfl rfl rfl (pf14) (load_int _) (load_int _) (eql_int _ _) (pf_cell (v := .int .i64 p.history) HP.out rfl) (pf_cell (v := .int .i64 q.history) HQ.out rfl) ?_
    intro v1 v2 v3 v4 v5
    simp only [Act.put, List.setIfInBounds_toArray, List.set_cons_zero, List.set_cons_succ]
    refine chain_field (by decide) (by simp) rfl rfl rfl rfl (pf15) (load_int _) (load_int _) (eql_int _ _) (pf_cell (v := .int .i64 p.remove) HP.out rfl) (pf_cell (v := .int .i64 q.remove) HQ.out rfl) ?_
    intro v1 v2 v3 v4 v5
    simp only [Act.put, List.setIfInBounds_toArray, List.set_cons_zero, List.set_cons_succ]
    refine chain_field (by decide) (by simp) rfl rfl rfl rfl (pf16) (load_int _) (load_int _) (eql_int _ _) (pf_cell (v := .int .i64 p.level) HP.out rfl) (pf_cell (v := .int .i64 q.level) HQ.out rfl) ?_
    intro v1 v2 v3 v4 v5
    simp only [Act.put, List.setIfInBounds_toArray, List.set_cons_zero, List.set_cons_succ]
    refine chain_field (by decide) (by simp) rfl rfl rfl rfl (pf17) (load_bool _) (load_bool _) (eql_bool _ _) (pf_cell (v := .bool p.batch) HP.out rfl) (pf_cell (v := .bool q.batch) HQ.out rfl) ?_
    intro v1 v2 v3 v4 v5
    simp only [Act.put, List.setIfInBounds_toArray, List.set_cons_zero, List.set_cons_succ]
    refine chain_field (by decide) (by simp) rfl rfl rfl rfl (pf18) (load_int _) (load_int _) (eql_int _ _) (pf_cell (v := .int .i64 p.rate) HP.out rfl) (pf_cell (v := .int .i64 q.rate) HQ.out rfl) ?_
    intro v1 v2 v3 v4 v5
    simp only [Act.put, List.setIfInBounds_toArray, List.set_cons_zero, List.set_cons_succ]
    refine chain_field (by decide) (by simp) rfl rfl rfl rfl (pf19) (load_int _) (load_int _) (eql_int _ _) (pf_cell (v := .int .i64 p.down) HP.out rfl) (pf_cell (v := .int .i64 q.down) HQ.out rfl) ?_
    intro v1 v2 v3 v4 v5
    simp only [Act.put, List.setIfInBounds_toArray, List.set_cons_zero, List.set_cons_succ]
    refine chain_field (by decide) (by simp) rfl rfl rfl rfl (pf20) (load_int _) (load_int _) (eql_int _ _) (pf_cell (v := .int .i64 p.window) HP.out rfl) (pf_cell (v := .int .i64 q.window) HQ.out rfl) ?_
    intro v1 v2 v3 v4 v5
    simp only [Act.put, List.setIfInBounds_toArray, List.set_cons_zero, List.set_cons_succ]
    refine chain_field (by decide) (by simp) rfl rfl rfl rfl (pf21) (load_int _) (load_int _) (eql_int _ _) (pf_cell (v := .int .i64 p.keep) HP.out rfl) (pf_cell (v := .int .i64 q.keep) HQ.out rfl) ?_
    intro v1 v2 v3 v4 v5
    simp only [Act.put, List.setIfInBounds_toArray, List.set_cons_zero, List.set_cons_succ]
    rw [show (((((((((dt && decide (p.join = q.join)) && decide (p.history = q.history)) && decide (p.remove = q.remove)) && decide (p.level = q.level)) && decide (p.batch = q.batch)) && decide (p.rate = q.rate)) && decide (p.down = q.down)) && decide (p.window = q.window)) && decide (p.keep = q.keep)) = restB dt p q from rfl]
    generalize hz : restB dt p q = z
    have HZ := Lib.hid (hz.symm.trans HR.out)
    clear hz
    go_wp2
    go_ret
    exact ⟨ret_bool HZ.out, HB.out⟩
end Go.Proofs.YtlefgffnjcmfoaaGreatDoor

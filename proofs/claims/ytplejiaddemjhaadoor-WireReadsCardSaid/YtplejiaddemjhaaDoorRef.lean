/-
  The reference's writers: what they return.
  Conditions: the lists lie whole in memory; the lengths are small.
-/
import Derived.Test.YtplejiaddemjhaaDoorNests
import Derived.Laws.IdiomStrings
namespace Go.Proofs.YtplejiaddemjhaaDoor
open Go.RowKit Go.Shelf

theorem conv1 (d : Nat) (c : UInt8) (hd : c.toNat = 48 + d) (w : World) : (convert 62 9 (.slice (some ⟨w.heap.size, 0, none⟩) 1 1)).run Tryd.prog (w.alloc (.cells #[.int .u8 (48 + (d : Int))] 5)) = .ok (.string (bs [c])) (w.alloc (.cells #[.int .u8 (48 + (d : Int))] 5)) := by
  have h := run_convert_bytes_back (P := Tryd.prog) (w.alloc (.cells #[.int .u8 (48 + (d : Int))] 5)) 62 9 5 ⟨w.heap.size, 0, none⟩ 1 [c] Tryd.underlying62 Tryd.underlying5 Tryd.underlying9 (fun j hj => by
    have hj0 : j = 0 := by simpa using hj
    subst hj0
    rw [Lib.add_plain]
    refine (Lib.cell_of_heap (heap_alloc_new w _) _).trans ?_
    simp only [List.getElem_cons_zero, hd]
    rfl)
  exact h
theorem digit_of (d : Nat) (hd : d < 10) : ∃ c : UInt8, c.toNat = 48 + d ∧ Hid (UInt8.ofNat (48 + d) = c) := ⟨_, by rw [UInt8.toNat_ofNat']; omega, Lib.hid rfl⟩

set_option maxRecDepth 100000 in
theorem digits_0 (m : Nat) (hm : m < 10) (w : World) :
    Calls Tryd.prog 45 #[.int .i64 (-(m : Int))] w fun e w' => e = .returned (.string (bs (Lib.decDigits m))) ∧ Below w.heap.size w w' := by
  have hr : (-(m : Int)).tmod 10 = -(m : Int) := by rw [Int.neg_tmod, Int.tmod_eq_emod_of_nonneg (by omega)]; omega
  obtain ⟨c, h1, HC⟩ := digit_of m hm
  have hc := conv1 m c h1 w
  clear h1
  go_enter Tryd.func45, Tryd.ntmps45
  go_wp2
  go_ret
  exact ⟨by rw [Sp.decDigits_small hm, HC.out]; rfl, (Below.refl _ _).alloc (Nat.le_refl _) _⟩

set_option maxRecDepth 100000 in
theorem digits_any (n : Nat) : ∀ (m : Nat) (w : World), m ≤ n → m ≤ 9223372036854775808 →
    Calls Tryd.prog 45 #[.int .i64 (-(m : Int))] w fun e w' => e = .returned (.string (bs (Lib.decDigits m))) ∧ Below w.heap.size w w' := by
  induction n with
  | zero => exact fun m w h _ => digits_0 m (by omega) w
  | succ n ih =>
    intro m w hm hb
    by_cases h : m < 10
    · exact digits_0 m h w
    · have hr : (-(m : Int)).tmod 10 = -((m % 10 : Nat) : Int) := by rw [Int.neg_tmod, Int.tmod_eq_emod_of_nonneg (by omega)]; omega
      have hq : (-(m : Int)).tdiv 10 = -((m / 10 : Nat) : Int) := by rw [Int.neg_tdiv, Int.tdiv_eq_ediv_of_nonneg (by omega)]; omega
      have hi := ih (m / 10) (w.alloc (.cells #[.int .u8 (48 + ((m % 10 : Nat) : Int))] 5)) (by omega) (by omega)
      have hl : (bs (Lib.decDigits (m / 10))).size ≤ 30 := by
        rw [bs_size]
        have := Lib.itoa_length_le ((m / 10 : Nat) : Int) (by omega) (by omega)
        rw [Lib.itoa, if_neg (by omega)] at this
        simp only [Int.toNat_natCast] at this
        omega
      have hd := Sp.decDigits_big h
      obtain ⟨c, hc1, HC⟩ := digit_of (m % 10) (by omega)
      have hc := conv1 (m % 10) c hc1 w
      rw [HC.out] at hd
      clear hc1 HC
      have hcz : (bs [c]).size = 1 := by rw [bs_size]; rfl
      have hlt : m % 10 < 10 := by omega
      have hqq : m / 10 ≤ 922337203685477580 := by omega
      generalize hdd : m % 10 = d at hr hc hi hd hlt
      generalize hqe : m / 10 = q at hq hi hd hl hqq
      have HD := Lib.hid hd
      have HI := Lib.hid hi
      clear hd hi hdd hqe ih
      go_enter Tryd.func45, Tryd.ntmps45
      go_wp2_with (go_at_call 45; refine HI.out.mono ?_; rintro e w1 ⟨rfl, b1⟩)
      go_ret
      exact ⟨by rw [bs_append, HD.out]; rfl, ((Below.refl _ _).alloc (Nat.le_refl _) _).trans (b1.mono (by simp))⟩
theorem bs_cons (a : List UInt8) (c : UInt8) : (⟨#[c]⟩ : ByteArray) ++ bs a = bs (c :: a) := ByteArray.mk_append_mk [c] a
theorem itoa_nat (n : Nat) : Lib.itoa (n : Int) = Lib.decDigits n := by rw [Lib.itoa, if_neg (by omega), Int.toNat_natCast]
theorem itoa_neg (n : Int) (h : n < 0) : Lib.itoa n = 45 :: Lib.decDigits (-n).toNat := by rw [Lib.itoa, if_pos h, show n.natAbs = (-n).toNat by omega]
theorem dec_len (n : Nat) (h : n ≤ 9223372036854775807) : (Lib.decDigits n).length ≤ 21 := by
  have := Lib.itoa_length_le (n : Int) (by omega) (by omega)
  rwa [itoa_nat] at this

set_option maxRecDepth 100000 in
theorem qInt_any (n : Int) (hn : Sp.I64 n) (w : World) :
    Calls Tryd.prog 14 #[.int .i64 n] w fun e w' => e = .returned (.string (bs (Sp.eInt n))) ∧ Below w.heap.size w w' := by
  have hl : (bs (Lib.itoa n)).size ≤ 21 := by rw [bs_size]; exact Lib.itoa_length_le n hn.1 hn.2
  obtain ⟨hn1, hn2⟩ := hn
  by_cases h : n < 0
  · have hd := digits_any _ (-n).toNat w (Nat.le_refl _) (by omega)
    rw [show -(((-n).toNat : Nat) : Int) = n by omega] at hd
    have hs : (bs (Lib.decDigits (-n).toNat)).size ≤ 21 := by rw [itoa_neg n h, bs_size, List.length_cons] at hl; rw [bs_size]; omega
    have HI := Lib.hid (itoa_neg n h)
    have HD := Lib.hid hd
    clear hd hl
    generalize Lib.decDigits (-n).toNat = D at hs HI HD
    go_enter Tryd.func14, Tryd.ntmps14
    go_wp2_with (go_at_call 45; refine HD.out.mono ?_; rintro e w1 ⟨rfl, b1⟩)
    go_ret
    exact ⟨ret_string (by rw [bs_cons, bs_snoc]; unfold Sp.eInt; rw [HI.out]), b1⟩
  · have hd := digits_any _ n.toNat w (Nat.le_refl _) (by omega)
    rw [show -((n.toNat : Nat) : Int) = -n by omega] at hd
    have hi : Lib.itoa n = Lib.decDigits n.toNat := by rw [Lib.itoa, if_neg h]
    have hs : (bs (Lib.decDigits n.toNat)).size ≤ 21 := by rw [hi] at hl; exact hl
    have HI := Lib.hid hi
    have HD := Lib.hid hd
    clear hd hl hi
    generalize Lib.decDigits n.toNat = D at hs HI HD
    go_enter Tryd.func14, Tryd.ntmps14
    go_wp2_with (go_at_call 45; refine HD.out.mono ?_; rintro e w1 ⟨rfl, b1⟩)
    go_ret
    exact ⟨ret_string (by rw [bs_snoc]; unfold Sp.eInt; rw [HI.out]), b1⟩

theorem qNum_any (n : Int) (hn : Sp.I64 n) (w : World) :
    Calls Tryd.prog 12 #[.int .i64 n] w fun e w' => e = .returned (.string (bs (Sp.eNum n))) ∧ Below w.heap.size w w' := by
  by_cases h : n < 0
  · go_enter Tryd.func12, Tryd.ntmps12
    go_wp2
    go_ret
    exact ⟨ret_string (by unfold Sp.eNum; rw [if_pos h]; rfl), Below.refl _ _⟩
  · go_enter Tryd.func12, Tryd.ntmps12
    go_wp2_with (go_at_call 14; refine (qInt_any n hn _).mono ?_; rintro e w' ⟨rfl, hb⟩)
    go_ret
    exact ⟨ret_string (by unfold Sp.eNum; rw [if_neg (by omega)]), hb⟩

set_option maxRecDepth 100000 in
theorem qText_any (l : List UInt8) (hl : l.length ≤ 400) (w : World) :
    Calls Tryd.prog 16 #[.string (bs l)] w fun e w' => e = .returned (.string (bs (Sp.eText l))) ∧ Below w.heap.size w w' := by
  have hd := digits_any _ l.length w (Nat.le_refl _) (by omega)
  rw [← bs_size] at hd
  have hs : (bs (Lib.decDigits (bs l).size)).size ≤ 21 := by rw [bs_size, bs_size]; exact dec_len _ (by omega)
  have hl2 : (bs l).size ≤ 400 := by rw [bs_size]; exact hl
  have HI := Lib.hid (itoa_nat l.length)
  have HS := Lib.hid (bs_size l)
  have HD := Lib.hid hd
  clear hd
  go_enter Tryd.func16, Tryd.ntmps16
  go_wp2_with (go_at_call 45; refine HD.out.mono ?_; rintro e w1 ⟨rfl, b1⟩)
  go_ret
  exact ⟨ret_string (by rw [bs_snoc, bs_append, bs_snoc]; unfold Sp.eText; rw [HI.out, HS.out]; simp), b1⟩

theorem eInt_len (z : Int) (h : Sp.I64 z) : (Sp.eInt z).length ≤ 22 := by
  have := Lib.itoa_length_le z h.1 h.2
  unfold Sp.eInt; simp; omega
theorem eText_len (t : List UInt8) (h : t.length ≤ 400) : (Sp.eText t).length ≤ 423 := by
  have := Lib.itoa_length_le (t.length : Int) (by omega) (by omega)
  unfold Sp.eText; simp; omega
theorem start_str (D : List UInt8) : bs D ++ (⟨#[91]⟩ : ByteArray) = bs (D ++ 91 :: []) := bs_snoc D 91

set_option maxRecDepth 100000 in
set_option maxHeartbeats 1000000 in
theorem qNums_any (v : Value) (zs : List Int) (w : World) (hv : IntsAt w v zs) (hz : ∀ z ∈ zs, Sp.I64 z) (hlen : zs.length ≤ 400) :
    Calls Tryd.prog 18 #[v] w fun e w' => e = .returned (.string (bs (Sp.eList Sp.eInt zs))) ∧ Below w.heap.size w w' := by
  obtain ⟨a, cap, rfl, hv⟩ := hv
  have HV := Lib.hid hv
  have HZ := Lib.hid hz
  have hdig := digits_any _ zs.length w (Nat.le_refl _) (by omega)
  have HDG := Lib.hid hdig
  have hsz : (bs (Lib.decDigits zs.length)).size ≤ 30 := by
    have := dec_len zs.length (by omega)
    rw [bs_size]; omega
  have HI := Lib.hid (itoa_nat zs.length)
  clear hv hz hdig
  go_enter Tryd.func18, Tryd.ntmps18
  go_wp2_with (go_at_call 45; refine HDG.out.mono ?_; rintro e w1 ⟨rfl, b1⟩; refine Hid.out ?_)
  refine Lib.hid ?_
  go_wp2
  go_loopw [3, 4] (fun s i wr => ∃ k : Nat, k ≤ zs.length ∧ i = .int .i64 k ∧ s = .string (bs (Lib.decDigits zs.length ++ 91 :: Sp.eMany Sp.eInt (zs.take k))) ∧ Below w.heap.size w wr) (fun _ i _ => zs.length - (intOf i).toNat)
  case atStart => exact ⟨0, Nat.zero_le _, rfl, by rw [start_str]; rfl, b1⟩
  case round =>
    obtain ⟨k, hk, rfl, rfl, kr⟩ := hrel
    have mr := kr.size
    have hbig : (bs (Lib.decDigits zs.length ++ 91 :: Sp.eMany Sp.eInt (zs.take k))).size ≤ 200000 := by
      have h1 := ints_len (zs.take k) (fun z hz' => HZ.out z (List.mem_of_mem_take hz'))
      have h2 := dec_len zs.length (by omega)
      rw [List.length_take] at h1
      rw [bs_size]
      simp only [List.length_append, List.length_cons]
      omega
    by_cases hlt : k < zs.length
    · obtain ⟨b, off, rfl, hbl, hc⟩ : ∃ b off, a = some ⟨b, off, none⟩ ∧ b < w.heap.size ∧ ∀ k, k < zs.length → w.cell? ⟨b, off + k, none⟩ = some (.int .i64 (zs.getD k 0)) := by
        rcases HV.out with h | h
        · rw [h] at hlt; simp at hlt
        · exact h
      have hg : zs.getD k 0 = zs[k] := by rw [List.getD_eq_getElem?_getD, List.getElem?_eq_getElem hlt]; rfl
      have d0 : wr.cell? ⟨b, off + k, none⟩ = some (.int .i64 zs[k]) := by
        rw [kr.cell (p := ⟨b, off + k, none⟩) hbl, hc k hlt, hg]
      have hzk := HZ.out zs[k] (List.getElem_mem hlt)
      have HT := Lib.hid (eMany_take Sp.eInt zs k hlt)
      clear hc hg hbl
      generalize zs[k] = z at d0 hzk HT
      have hes : (bs (Sp.eInt z)).size ≤ 22 := by rw [bs_size]; exact eInt_len z hzk
      go_wp2_with (go_at_call 14; refine (qInt_any z hzk _).mono ?_; rintro e w2 ⟨rfl, b2⟩)
      go_roundw
      case rel =>
        exact ⟨k + 1, by omega, by go_num, by rw [HT.out, bs_append]; simp, kr.trans (b2.mono mr)⟩
      case measure => simp [intOf]; omega
    · have hkl : k = zs.length := by omega
      subst hkl
      clear hlt hk HDG
      rw [List.take_length] at hbig ⊢
      go_wp2
      go_ret
      exact ⟨ret_string (by rw [bs_snoc]; unfold Sp.eList; rw [HI.out]; simp), kr⟩

set_option maxRecDepth 100000 in
set_option maxHeartbeats 1000000 in
theorem qTexts_any (v : Value) (zs : List (List UInt8)) (w : World) (hv : TextsAt w v zs) (hz : ∀ z ∈ zs, z.length ≤ 400) (hlen : zs.length ≤ 400) :
    Calls Tryd.prog 20 #[v] w fun e w' => e = .returned (.string (bs (Sp.eList Sp.eText zs))) ∧ Below w.heap.size w w' := by
  obtain ⟨a, cap, rfl, hv⟩ := hv
  have HV := Lib.hid hv
  have HZ := Lib.hid hz
  have hdig := digits_any _ zs.length w (Nat.le_refl _) (by omega)
  have HDG := Lib.hid hdig
  have hsz : (bs (Lib.decDigits zs.length)).size ≤ 30 := by
    have := dec_len zs.length (by omega)
    rw [bs_size]; omega
  have HI := Lib.hid (itoa_nat zs.length)
  clear hv hz hdig
  go_enter Tryd.func20, Tryd.ntmps20
  go_wp2_with (go_at_call 45; refine HDG.out.mono ?_; rintro e w1 ⟨rfl, b1⟩; refine Hid.out ?_)
  refine Lib.hid ?_
  go_wp2
  go_loopw [3, 4] (fun s i wr => ∃ k : Nat, k ≤ zs.length ∧ i = .int .i64 k ∧ s = .string (bs (Lib.decDigits zs.length ++ 91 :: Sp.eMany Sp.eText (zs.take k))) ∧ Below w.heap.size w wr) (fun _ i _ => zs.length - (intOf i).toNat)
  case atStart => exact ⟨0, Nat.zero_le _, rfl, by rw [start_str]; rfl, b1⟩
  case round =>
    obtain ⟨k, hk, rfl, rfl, kr⟩ := hrel
    have mr := kr.size
    have hbig : (bs (Lib.decDigits zs.length ++ 91 :: Sp.eMany Sp.eText (zs.take k))).size ≤ 200000 := by
      have h1 := texts_len (zs.take k) (fun z hz' => HZ.out z (List.mem_of_mem_take hz'))
      have h2 := dec_len zs.length (by omega)
      rw [List.length_take] at h1
      rw [bs_size]
      simp only [List.length_append, List.length_cons]
      omega
    by_cases hlt : k < zs.length
    · obtain ⟨b, off, rfl, hbl, hc⟩ : ∃ b off, a = some ⟨b, off, none⟩ ∧ b < w.heap.size ∧ ∀ k, k < zs.length → w.cell? ⟨b, off + k, none⟩ = some (.string (bs (zs.getD k []))) := by
        rcases HV.out with h | h
        · rw [h] at hlt; simp at hlt
        · exact h
      have hg : zs.getD k [] = zs[k] := by rw [List.getD_eq_getElem?_getD, List.getElem?_eq_getElem hlt]; rfl
      have d0 : wr.cell? ⟨b, off + k, none⟩ = some (.string (bs zs[k])) := by
        rw [kr.cell (p := ⟨b, off + k, none⟩) hbl, hc k hlt, hg]
      have hzk := HZ.out zs[k] (List.getElem_mem hlt)
      have HT := Lib.hid (eMany_take Sp.eText zs k hlt)
      clear hc hg hbl
      generalize zs[k] = z at d0 hzk HT
      have hes : (bs (Sp.eText z)).size ≤ 423 := by rw [bs_size]; exact eText_len z hzk
      go_wp2_with (go_at_call 16; refine (qText_any z hzk _).mono ?_; rintro e w2 ⟨rfl, b2⟩)
      go_roundw
      case rel =>
        exact ⟨k + 1, by omega, by go_num, by rw [HT.out, bs_append]; simp, kr.trans (b2.mono mr)⟩
      case measure => simp [intOf]; omega
    · have hkl : k = zs.length := by omega
      subst hkl
      clear hlt hk HDG
      rw [List.take_length] at hbig ⊢
      go_wp2
      go_ret
      exact ⟨ret_string (by rw [bs_snoc]; unfold Sp.eList; rw [HI.out]; simp), kr⟩
end Go.Proofs.YtplejiaddemjhaaDoor

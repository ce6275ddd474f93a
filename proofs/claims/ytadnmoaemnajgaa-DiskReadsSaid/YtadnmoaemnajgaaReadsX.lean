/- DiskReads, where the machine is up. -/
import Derived.Test.YtadnmoaemnajgaaReadsW
namespace Go.Proofs.Ytadnmoaemnajgaa
open Go.RowKit Go.Maps Go.ChangeMaps Go.MapKept
open Dp
attribute [local go_sem ↓] Go.wp_at_zero Go.wp_at_succ

theorem putN_length (t : List UInt8) (a : Nat) (s : List UInt8) : (putN t a s).length ≤ max t.length (a + s.length) := by
  unfold putN
  split
  · omega
  · rw [putL_length]; omega
theorem reads_facts {D : Dk} (h : Good D) (hd : D.down = false) {f : Int} (hf : isFile f = true) {a : Int} (h4 : 0 ≤ a) (h5 : a ≤ 3000) {s : List UInt8} (h3 : s.length ≤ 300) (hl : (D.now f.toNat).length ≤ 16777216) :
    ∃ t D2, t.length ≤ 16777216 ∧ (D.arm 0 []).write f a s = (0, D2) ∧ D2.size f = t.length ∧ D2.read f a s.length = (s, 0) ∧ D2.read f 0 t.length = (t, 0) ∧ (∀ n : Int, 0 ≤ n → D2.read f a n = ((t.drop a.toNat).take n.toNat, 0)) ∧
      ∀ n : Nat, n ≤ t.length → D2.truncate f n = (0, D2.trunc f n) ∧ (((D2.trunc f n).crash []).start).read f 0 16777216 = (t.take n, 0) := by
  have hg1 : Good (D.arm 0 []) := h.of rfl rfl rfl
  have hg2 := good_wr hg1 f a s
  have hfn : f.toNat < 16 := by have := isFile_true hf; omega
  obtain ⟨hw1, hw2⟩ := wr_ok (D := D.arm 0 []) (s := s) hf h4 (by omega)
  have hwu := write_up (D := D.arm 0 []) rfl hd f a s
  have hd2 : ((D.arm 0 []).wr f a s).2.down = false := by rw [wr_down]; exact hd
  have hc2 : ((D.arm 0 []).wr f a s).2.calls = 0 := by rw [wr_calls]; rfl
  have hnow := hw2 f.toNat
  rw [if_pos rfl] at hnow
  have hnow : ((D.arm 0 []).wr f a s).2.now f.toNat = putN (D.now f.toNat) a.toNat s := hnow
  have hlen := putN_length (D.now f.toNat) a.toNat s
  have hmid := putN_mid (D.now f.toNat) a.toNat s
  generalize putN (D.now f.toNat) a.toNat s = t at hnow hlen hmid
  generalize hD2 : ((D.arm 0 []).wr f a s).2 = D2 at *
  refine ⟨t, D2, by omega, by rw [hwu, ← hD2]; exact Prod.ext hw1 rfl, ?_, ?_, ?_, fun n hn => ?_, fun n hn => ⟨?_, ?_⟩⟩
  · unfold Dk.size; rw [hf, if_pos rfl, hnow]
  · rw [read_up hd2 hf h4 (by omega), hnow]
    rw [show ((s.length : Int)).toNat = s.length from rfl, hmid]
  · rw [read_all hd2 hf (by rw [hnow]; exact Int.le_refl _), hnow]
  · rw [read_up hd2 hf h4 hn, hnow]
  · rw [truncate_up hc2 hd2 hf (by omega) (by rw [hnow]; omega)]
    rfl
  · have hd3 : (D2.trunc f n).down = false := by
      show (D2.settle f.toNat).down = false
      rw [settle_down]; exact hd2
    have ht := trunc_facts hg2 f n
    have hcr := crash_none hd3 hfn
    rw [ht.2, hnow] at hcr
    have hcs : (((D2.trunc f n).crash []).start).now f.toNat = t.take n := hcr
    rw [read_all (D := ((D2.trunc f n).crash []).start) rfl hf (by rw [hcs, List.length_take]; omega), hcs]

section
variable {w : World} {a : Option Addr} {xs : List Act1}
set_option maxHeartbeats 1000000 in
set_option maxRecDepth 100000 in
theorem reads_up (cap : Nat) (f at_ size : Int) (s : List UInt8) (ha : Args w a xs) (hl : xs.length ≤ 9223372036854775807) (hf : I64 f) (hat : I64 at_) (hsz : I64 size)
    (hfew : fewB xs = true) (h3 : s.length ≤ 300) (h4 : 0 ≤ at_) (h5 : at_ ≤ 3000) (h6 : 0 ≤ size) (hdn : (play new xs).down = false) (h7 : 0 ≤ f) (h8 : f ≤ 15) :
    Calls Try.prog 7 #[.slice a xs.length cap, .int .i64 f, .int .i64 at_, .string (bs s), .int .i64 size] w fun e w' => e = .returned (.bool true) ∧ Below w.heap.size w w' := by
  have HA := Lib.hid ha
  have hz := bs_size s
  have s2 := hsz.2
  have HR := Lib.hid hfew
  have hpl := fun (w1 : World) (b1 : Below w.heap.size w w1) => played_any a cap xs w1 ((Mem.start w).fresh b1) ha (fewB_true hfew)
  have hgd := good_play good_new xs
  obtain ⟨D, hD⟩ : ∃ D, play new xs = D := ⟨_, rfl⟩
  rw [hD] at hpl hdn hgd
  have HP := Lib.hid hpl
  have HGD := Lib.hid hgd
  have HDN := Lib.hid (show (D.arm 0 []).down = false from hdn)
  have HDD := Lib.hid hdn
  have HF := Lib.hid hf
  have HT := Lib.hid hat
  have HSZ := Lib.hid hsz
  have HIF := Lib.hid (isFile_of (f := f) (by omega) (by omega))
  clear ha hat hsz hfew hpl hf hdn hD hgd
  go_enter Try.func7, Try.ntmps7
  go_wp2_with (go_at_call 8; refine (small_any _).mono ?_; rintro e w1 ⟨rfl, b1⟩; refine Hid.out ?_)
  refine Lib.hid ?_
  have B1 := Lib.hid b1
  clear b1
  go_wp2_with (go_at_call 9; refine (few_at HA.out hl cap B1.out HR.out).mono ?_; rintro e w2 ⟨rfl, rfl⟩; refine Hid.out ?_)
  refine Lib.hid ?_
  go_wp2_with (go_at_call 22; refine (HP.out _ B1.out).mono ?_; rintro e w3 ⟨b, rfl, m⟩; refine Hid.out ?_)
  refine Lib.hid ?_
  have M3 := Lib.hid (show Mem w w3 [(b, D)] from m)
  have HAR := Lib.hid (mem_arm (i := 0) M3.out rfl 0 I64.zero _ [] (Nums.nil _ _) (by decide))
  clear m B1
  go_wp2_with (go_at_call 27; refine HAR.out.mono ?_; rintro e w4 ⟨rfl, m⟩; refine Hid.out ?_)
  refine Lib.hid ?_
  have M4 := Lib.hid (show Mem w w4 [(b, D.arm 0 [])] from m)
  have HDW := Lib.hid (mem_down1 (i := 0) M4.out rfl HDN.out)
  have hok := (Mem.good M3.out (i := 0) rfl).2.now f.toNat
  obtain ⟨t, D2, htl, q1, q2, q3, q4, q5, q6⟩ := reads_facts HGD.out HDD.out HIF.out h4 h5 h3 hok
  have HW := Lib.hid (mem_write1 (i := 0) M4.out rfl f at_ s HF.out HT.out (by omega) q1)
  clear m M3 HAR hok q1
  have Q2 := Lib.hid q2
  have Q3 := Lib.hid q3
  have Q4 := Lib.hid q4
  have Q5 := Lib.hid (q5 size h6)
  obtain ⟨lo, hlo⟩ : ∃ lo : Nat, lo = min at_.toNat t.length := ⟨_, rfl⟩
  obtain ⟨m, hm⟩ : ∃ m : Nat, m = min size.toNat (t.length - lo) := ⟨_, rfl⟩
  obtain ⟨hq6, hq7⟩ := q6 lo (by omega)
  have Q6 := Lib.hid hq6
  have Q7 := Lib.hid hq7
  have HE := Lib.hid (show ((t.drop at_.toNat).take size.toNat) = (t.drop lo).take m by
    apply List.ext_getElem?
    intro i
    simp only [List.getElem?_take, List.getElem?_drop]
    by_cases hin : i < m
    · rw [if_pos (by omega), if_pos hin]; congr 1; omega
    · rw [if_neg hin]
      split
      · exact List.getElem?_eq_none (by omega)
      · rfl)
  have hm1 : min at_ (t.length : Int) = (lo : Int) := by omega
  have hm2 : min size ((t.length : Int) - (lo : Int)) = (m : Int) := by omega
  have hlt : lo ≤ t.length := by omega
  have hmt : lo + m ≤ t.length := by omega
  have htz := bs_size t
  clear q2 q3 q4 q5 q6 hq6 hq7 hlo hm
  go_wp2_with (go_at_call 14; refine HDW.out.mono ?_; rintro e w5 ⟨rfl, rfl⟩; refine Hid.out ?_)
  refine Lib.hid ?_
  go_wp2_with (go_at_call 29; refine HW.out.mono ?_; rintro e w6 ⟨rfl, m6⟩; refine Hid.out ?_)
  refine Lib.hid ?_
  have M6 := Lib.hid (show Mem w w6 [(b, D2)] from m6)
  have HRD := Lib.hid (mem_read1 (i := 0) M6.out rfl f at_ s.length HF.out HT.out ⟨by omega, by omega⟩ Q3.out _ rfl)
  clear m6 HW
  go_wp2_with (go_at_call 20; refine HRD.out.mono ?_; rintro e w7 ⟨rfl, m7⟩; refine Hid.out ?_)
  refine Lib.hid ?_
  have M7 := Lib.hid (show Mem w w7 [(b, D2)] from m7)
  have HSZ2 := Lib.hid (mem_size1 (i := 0) M7.out rfl f HF.out Q2.out)
  have HRD := Lib.hid (mem_read1 (i := 0) M7.out rfl f 0 t.length HF.out I64.zero ⟨by omega, by omega⟩ Q4.out _ rfl)
  clear m7 M6
  go_wp2_with (first | (go_at_call 16; refine HSZ2.out.mono ?_; rintro e w8 ⟨rfl, rfl⟩) | (go_at_call 20; refine HRD.out.mono ?_; rintro e w8 ⟨rfl, m8⟩; refine Hid.out ?_))
  refine Lib.hid ?_
  have M8 := Lib.hid (show Mem w w8 [(b, D2)] from m8)
  have HRD := Lib.hid (mem_read1 (i := 0) M8.out rfl f at_ size HF.out HT.out HSZ.out Q5.out _ rfl)
  have HSZ3 := Lib.hid (fun w' (hm : Mem w w' [(b, D2)]) => mem_size1 (i := 0) hm rfl f HF.out Q2.out)
  clear m8 M7 HSZ2
  go_wp2_with (go_at_call 20; refine HRD.out.mono ?_; rintro e w9 ⟨rfl, m9⟩; refine Hid.out ?_)
  refine Lib.hid ?_
  have M9 := Lib.hid (show Mem w w9 [(b, D2)] from m9)
  have hq1 := str_eq (l := s) rfl
  have hq2 : (!((bs ((t.drop at_.toNat).take size.toNat)).toList == ((bs t).extract lo (lo + m)).toList)) = false := by
    rw [bs_extract, Nat.add_sub_cancel_left]; exact str_eq HE.out
  have htr := mem_truncate (i := 0) M9.out rfl f (lo : Int) HF.out ⟨by omega, by omega⟩
  rw [Q6.out] at htr
  have HTR := Lib.hid htr
  clear m9 M8 htr
  go_wp2_with (first | (go_at_call 16; refine (HSZ3.out _ M9.out).mono ?_; rintro e w10 ⟨rfl, rfl⟩) | (go_at_call 30; refine HTR.out.mono ?_; rintro e w11 ⟨rfl, m11⟩; refine Hid.out ?_))
  refine Lib.hid ?_
  have M11 := Lib.hid (show Mem w w11 [(b, D2.trunc f lo)] from m11)
  have HCR := Lib.hid (mem_crash (i := 0) M11.out rfl _ [] (Nums.nil _ _) (by decide))
  clear m11 hq1 hq2 hm1 hm2
  go_wp2_with (go_at_call 25; refine HCR.out.mono ?_; rintro e w12 ⟨rfl, m12⟩; refine Hid.out ?_)
  refine Lib.hid ?_
  have M12 := Lib.hid (show Mem w w12 [(b, (D2.trunc f lo).crash [])] from m12)
  have HST := Lib.hid (mem_start (i := 0) M12.out rfl)
  clear m12 M11
  go_wp2_with (go_at_call 26; refine HST.out.mono ?_; rintro e w13 ⟨rfl, m13⟩; refine Hid.out ?_)
  refine Lib.hid ?_
  have M13 := Lib.hid (show Mem w w13 [(b, ((D2.trunc f lo).crash []).start)] from m13)
  have HRD := Lib.hid (mem_read1 (i := 0) M13.out rfl f 0 16777216 HF.out I64.zero ⟨by decide, by decide⟩ Q7.out _ rfl)
  clear m13 M12
  go_wp2_with (go_at_call 20; refine HRD.out.mono ?_; rintro e w14 ⟨rfl, m14⟩; refine Hid.out ?_)
  refine Lib.hid ?_
  have M14 := Lib.hid m14
  have hq3 : ((bs (t.take lo)).toList == ((bs t).extract 0 lo).toList) = true := by
    rw [bs_extract, Nat.sub_zero, List.drop_zero]; simp
  clear m14 M13
  go_wp2
  go_ret
  exact ⟨ret_bool (by first | rfl | exact hq3 | simp), M14.out.below⟩

theorem reads_walk (cap : Nat) (f at_ size : Int) (s : List UInt8) (ha : Args w a xs) (hl : xs.length ≤ 9223372036854775807) (hf : I64 f) (hat : I64 at_) (hsz : I64 size) :
    Calls Try.prog 7 #[.slice a xs.length cap, .int .i64 f, .int .i64 at_, .string (bs s), .int .i64 size] w fun e w' => e = .returned (.bool true) ∧ Below w.heap.size w w' := by
  cases hfew : fewB xs with
  | false => exact reads_out cap f at_ size s ha hl hat hsz (.inl hfew)
  | true =>
    by_cases h3 : s.length ≤ 300
    · by_cases h4 : 0 ≤ at_
      · by_cases h5 : at_ ≤ 3000
        · by_cases h6 : 0 ≤ size
          · cases hd : (play new xs).down with
            | true => exact reads_down cap f at_ size s ha hl hf hat hsz hfew h3 h4 h5 h6 (.inl hd)
            | false =>
              by_cases h7 : 0 ≤ f
              · by_cases h8 : f ≤ 15
                · exact reads_up cap f at_ size s ha hl hf hat hsz hfew h3 h4 h5 h6 hd h7 h8
                · exact reads_down cap f at_ size s ha hl hf hat hsz hfew h3 h4 h5 h6 (.inr (.inr (by omega)))
              · exact reads_down cap f at_ size s ha hl hf hat hsz hfew h3 h4 h5 h6 (.inr (.inl (by omega)))
          · exact reads_out cap f at_ size s ha hl hat hsz (.inr (.inr (.inr (.inr (by omega)))))
        · exact reads_out cap f at_ size s ha hl hat hsz (.inr (.inr (.inr (.inl (by omega)))))
      · exact reads_out cap f at_ size s ha hl hat hsz (.inr (.inr (.inl (by omega))))
    · exact reads_out cap f at_ size s ha hl hat hsz (.inr (.inl (by omega)))
end
end Go.Proofs.Ytadnmoaemnajgaa

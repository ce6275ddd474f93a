/- The walk of NamesOpen. -/
import Derived.Test.YtjhedlkanphlhaaNTools
import Derived.Test.YtjhedlkanphlhaaOrd3
namespace Go.Proofs.Ytjhedlkanphlhaa
open Go.RowKit Go.Maps Go.ChangeMaps Go.MapKept
open Np
attribute [local go_sem ↓] Go.wp_at_zero Go.wp_at_succ

set_option maxHeartbeats 8000000 in
set_option maxRecDepth 100000 in
theorem opens_walk {w : World} {v u : Value} {l more : List ByteArray} (hv : TextsAt w v l) (hu : TextsAt w u more) : Calls Try.prog 5 #[v, u] w fun e w' => e = .returned (.bool true) ∧ Below w.heap.size w w' := by
  obtain ⟨a, cap, rfl, -⟩ := hv.form
  obtain ⟨a', cap', rfl, -⟩ := hu.form
  have HL := Lib.hid hv
  have HU := Lib.hid hu
  clear hv hu
  go_enter Try.func5, Try.ntmps5
  go_wp2_with (go_at_call 7; refine (small_any _).mono ?_; rintro e w1 ⟨rfl, hb1⟩; refine Hid.out ?_)
  refine Lib.hid ?_
  have M1 := Lib.hid ((OMem.start w).fresh hb1)
  clear hb1
  go_wp2_with (go_at_call 12; refine (n_new M1.out).mono ?_; rintro e w2 ⟨b, rfl, m2⟩; refine Hid.out ?_)
  refine Lib.hid ?_
  have M2 := Lib.hid (show OMem w w2 [.names b []] from m2)
  clear m2 M1
  have HF1 := Lib.hid (few_any _ l 24 (HL.out.keep M2.out.below) (by decide))
  have HF2 := Lib.hid (few_any _ more 12 (HU.out.keep M2.out.below) (by decide))
  by_cases hf : few l 24 = true
  · have HFW := Lib.hid (show Few l 24 from of_decide_eq_true hf)
    rw [hf] at HF1
    clear hf
    go_wp2_with (go_at_call 8; refine (HF1.out).mono ?_; rintro e w3 ⟨rfl, rfl⟩; refine Hid.out ?_)
    refine Lib.hid ?_
    clear HF1
    by_cases hg : few more 12 = true
    · have HGW := Lib.hid (show Few more 12 from of_decide_eq_true hg)
      rw [hg] at HF2
      clear hg
      go_wp2_with (go_at_call 8; refine (HF2.out).mono ?_; rintro e w3 ⟨rfl, rfl⟩; refine Hid.out ?_)
      refine Lib.hid ?_
      clear HF2
      have hlen : l.length ≤ 24 := HFW.out.1
      have hmore : more.length ≤ 12 := HGW.out.1
      have HT := Lib.hid HFW.out.text
      have HTM := Lib.hid HGW.out.text
      go_wp2
      go_loopw [7] (fun i wr => ∃ k : Nat, k ≤ l.length ∧ i = .int .i64 k ∧ OMem w wr [.names b (ofs [] (l.take k))]) (fun i _ => l.length - (intOf i).toNat)
      case atStart => exact ⟨0, Nat.zero_le _, rfl, M2.out⟩
      case round =>
        obtain ⟨k, hk, rfl, hm⟩ := hrel
        have M := Lib.hid hm
        clear hm M2
        by_cases hlt : k < l.length
        · have hn0 : (ofs [] (l.take k)).length ≤ l.length := by have := ofs_len [] (l.take k); simp at this; omega
          have HO := Lib.hid (n_of_eq M.out (i := 0) rfl (step_of HT.out hlt) (by omega))
          obtain ⟨_, _, h1, hac⟩ := (HL.out.keep M.out.below).form
          simp only [Value.slice.injEq] at h1
          obtain ⟨h1, -, -⟩ := h1
          subst h1
          obtain ⟨lb, lo, h1, hck⟩ := hac k hlt
          subst h1
          clear hac
          go_wp2_with (go_at_call 14; refine (HO.out).mono ?_; rintro e w4 ⟨rfl, m4⟩; refine Hid.out ?_)
          refine Lib.hid ?_
          have M4 := Lib.hid (show OMem w w4 [.names b (ofs [] (l.take (k + 1)))] from m4)
          clear m4 HO M hck
          go_wp2
          go_roundw
          case rel => exact ⟨k + 1, by omega, by go_num, M4.out⟩
          case measure => simp [intOf]; omega
        · obtain rfl : k = l.length := by omega
          have hm := M.out
          rw [List.take_length] at hm
          have MA := Lib.hid hm
          clear hm M
          have hpn : (ofs [] l).length ≤ l.length := by have := ofs_len [] l; simpa using this
          have HTT := Lib.hid (ofs_text (T := []) (by intro s hs; cases hs) l)
          have HND := Lib.hid (ofs_nodup (T := []) (by simp) l)
          go_wp2_with (go_at_call 21; refine (n_all MA.out (i := 0) rfl HTT.out (by omega)).mono ?_; rintro e w3 ⟨va, rfl, m3⟩; refine Hid.out ?_)
          refine Lib.hid ?_
          have M3 := Lib.hid (show OMem w w3 [.names b (ofs [] l), .own 9 va (strVs (ofs [] l))] from m3)
          clear m3 MA
          obtain ⟨a3, c3, hva, -⟩ := (M3.out.texts (i := 1) rfl).form
          subst hva
          have HOP := Lib.hid (n_open_yes M3.out (M3.out.texts (i := 1) rfl) (by omega) (opened_ok HTT.out HND.out))
          go_wp2_with (go_at_call 9; refine (HOP.out).mono ?_; rintro e w4 ⟨b2, rfl, m4⟩; refine Hid.out ?_)
          refine Lib.hid ?_
          have M4 := Lib.hid (show OMem w w4 [.names b (ofs [] l), .own 9 (.slice a3 (ofs [] l).length c3) (strVs (ofs [] l)), .names b2 (ofs [] l)] from m4)
          clear m4 HOP M3
          go_wp2
          go_loopw [10] (fun i wr => ∃ k : Nat, k ≤ l.length ∧ i = .int .i64 k ∧ OMem w wr [.names b (ofs [] l), .own 9 (.slice a3 (ofs [] l).length c3) (strVs (ofs [] l)), .names b2 (ofs [] l)]) (fun i _ => l.length - (intOf i).toNat)
          case atStart => exact ⟨0, Nat.zero_le _, rfl, M4.out⟩
          case round =>
            obtain ⟨k, hk, rfl, hm⟩ := hrel
            have M := Lib.hid hm
            clear hm M4
            by_cases hlt : k < l.length
            · obtain ⟨_, _, h1, hac⟩ := (HL.out.keep M.out.below).form
              simp only [Value.slice.injEq] at h1
              obtain ⟨h1, -, -⟩ := h1
              subst h1
              obtain ⟨lb, lo, h1, hck⟩ := hac k hlt
              subst h1
              clear hac
              have SS := Lib.hid (fun w5 (m5 : Below w.heap.size w w5) => RowAt.at_ (HL.out.keep m5) (arg_at hlt))
              have S0 : wr.drew.cell? ⟨lb, lo + k, none⟩ = some (.string l[k]) := SS.out _ M.out.drew.below
              have HO1 := Lib.hid (n_of_eq M.out.drew (i := 2) rfl (whole_of HT.out hlt) (by omega))
              clear hck
              go_wp2
              refine region_till 12 (fun w' => w'.cell? ⟨lb, lo + k, none⟩ = some (.string l[k])) (by kernel_rfl) ?_
              refine till_take 0 8 false (v := ?v0a) (by kernel_rfl) (by kernel_rfl) (by kernel_rfl) (by kernel_rfl) (by kernel_rfl) (fun _ _ _ h => h) ?hw0a S0 ?hy0a ?rest0a
              case hw0a => (simp only [List.getElem?_toArray, List.getElem?_cons_zero, Option.elim]; rfl)
              case hy0a => (simp only [List.getElem?_toArray, List.getElem?_cons_zero, Option.elim]; intro wx _; go_simp; with_reducible rfl)
              simp only [dstOf, List.getElem?_toArray, List.getElem?_cons_zero, Option.bind, Act.put, List.setIfInBounds_toArray, List.set_cons_zero, List.set_cons_succ]
              refine till_take 1 8 false (v := ?v1a) (by kernel_rfl) (by kernel_rfl) (by kernel_rfl) (by kernel_rfl) (by kernel_rfl) (fun _ _ _ h => h) ?hw1a S0 ?hy1a ?rest1a
              case hw1a => (simp only [List.getElem?_toArray, List.getElem?_cons_zero, List.getElem?_cons_succ, Option.elim]; rfl)
              case hy1a => (simp only [List.getElem?_toArray, List.getElem?_cons_zero, List.getElem?_cons_succ, Option.elim]; intro wx _; go_simp; with_reducible rfl)
              simp only [dstOf, List.getElem?_toArray, List.getElem?_cons_zero, List.getElem?_cons_succ, Option.bind, Act.put, List.setIfInBounds_toArray, List.set_cons_zero, List.set_cons_succ]
              refine till_take 2 8 false (v := ?v2a) (by kernel_rfl) (by kernel_rfl) (by kernel_rfl) (by kernel_rfl) (by kernel_rfl) (fun _ _ _ h => h) ?hw2a S0 ?hy2a ?rest2a
              case hw2a => (simp only [List.getElem?_toArray, List.getElem?_cons_zero, List.getElem?_cons_succ, Option.elim]; rfl)
              case hy2a => (simp only [List.getElem?_toArray, List.getElem?_cons_zero, List.getElem?_cons_succ, Option.elim]; intro wx _; go_simp; with_reducible rfl)
              simp only [dstOf, List.getElem?_toArray, List.getElem?_cons_zero, List.getElem?_cons_succ, Option.bind, Act.put, List.setIfInBounds_toArray, List.set_cons_zero, List.set_cons_succ]
              refine till_take 3 8 false (v := ?v3a) (by kernel_rfl) (by kernel_rfl) (by kernel_rfl) (by kernel_rfl) (by kernel_rfl) (fun _ _ _ h => h) ?hw3a S0 ?hy3a ?rest3a
              case hw3a => (simp only [List.getElem?_toArray, List.getElem?_cons_zero, List.getElem?_cons_succ, Option.elim]; rfl)
              case hy3a => (simp only [List.getElem?_toArray, List.getElem?_cons_zero, List.getElem?_cons_succ, Option.elim]; intro wx _; go_simp; with_reducible rfl)
              simp only [dstOf, List.getElem?_toArray, List.getElem?_cons_zero, List.getElem?_cons_succ, Option.bind, Act.put, List.setIfInBounds_toArray, List.set_cons_zero, List.set_cons_succ]
              refine till_take 4 8 true (v := ?v4a) (by kernel_rfl) (by kernel_rfl) (by kernel_rfl) (by kernel_rfl) (by kernel_rfl) (fun _ _ _ h => h) ?hw4a S0 ?hy4a ?rest4a
              case hw4a => (simp only [List.getElem?_toArray, List.getElem?_cons_zero, List.getElem?_cons_succ, Option.elim]; rfl)
              case hy4a => (simp only [List.getElem?_toArray, List.getElem?_cons_zero, List.getElem?_cons_succ, Option.elim]; intro wx hx; have x0 := hx trivial; go_simp; with_reducible rfl)
              simp only [dstOf, List.getElem?_toArray, List.getElem?_cons_zero, List.getElem?_cons_succ, Option.bind, Act.put, List.setIfInBounds_toArray, List.set_cons_zero, List.set_cons_succ]
              refine till_take 6 8 false (v := ?v6a) (by kernel_rfl) (by kernel_rfl) (by kernel_rfl) (by kernel_rfl) (by kernel_rfl) (fun _ _ _ h => h) ?hw6a S0 ?hy6a ?rest6a
              case hw6a => (simp only [List.getElem?_toArray, List.getElem?_cons_zero, List.getElem?_cons_succ, Option.elim]; rfl)
              case hy6a => (simp only [List.getElem?_toArray, List.getElem?_cons_zero, List.getElem?_cons_succ, Option.elim]; intro wx _; go_simp; with_reducible rfl)
              simp only [dstOf, List.getElem?_toArray, List.getElem?_cons_zero, List.getElem?_cons_succ, Option.bind, Act.put, List.setIfInBounds_toArray, List.set_cons_zero, List.set_cons_succ]
              refine till_take 7 8 false (v := ?v7a) (by kernel_rfl) (by kernel_rfl) (by kernel_rfl) (by kernel_rfl) (by kernel_rfl) (fun _ _ _ h => h) ?hw7a S0 ?hy7a ?rest7a
              case hw7a => (simp only [List.getElem?_toArray, List.getElem?_cons_zero, List.getElem?_cons_succ, Option.elim]; rfl)
              case hy7a => (simp only [List.getElem?_toArray, List.getElem?_cons_zero, List.getElem?_cons_succ, Option.elim]; intro wx _; go_simp; with_reducible rfl)
              simp only [dstOf, List.getElem?_toArray, List.getElem?_cons_zero, List.getElem?_cons_succ, Option.bind, Act.put, List.setIfInBounds_toArray, List.set_cons_zero, List.set_cons_succ]
              refine till_take 8 8 false (v := ?v8a) (by kernel_rfl) (by kernel_rfl) (by kernel_rfl) (by kernel_rfl) (by kernel_rfl) (fun _ _ _ h => h) ?hw8a S0 ?hy8a ?rest8a
              case hw8a => (simp only [List.getElem?_toArray, List.getElem?_cons_zero, List.getElem?_cons_succ, Option.elim]; rfl)
              case hy8a => (simp only [List.getElem?_toArray, List.getElem?_cons_zero, List.getElem?_cons_succ, Option.elim]; intro wx _; go_simp; with_reducible rfl)
              simp only [dstOf, List.getElem?_toArray, List.getElem?_cons_zero, List.getElem?_cons_succ, Option.bind, Act.put, List.setIfInBounds_toArray, List.set_cons_zero, List.set_cons_succ]
              refine till_take 9 8 false (v := ?v9a) (by kernel_rfl) (by kernel_rfl) (by kernel_rfl) (by kernel_rfl) (by kernel_rfl) (fun _ _ _ h => h) ?hw9a S0 ?hy9a ?rest9a
              case hw9a => (simp only [List.getElem?_toArray, List.getElem?_cons_zero, List.getElem?_cons_succ, Option.elim]; rfl)
              case hy9a => (simp only [List.getElem?_toArray, List.getElem?_cons_zero, List.getElem?_cons_succ, Option.elim]; intro wx _; go_simp; with_reducible rfl)
              simp only [dstOf, List.getElem?_toArray, List.getElem?_cons_zero, List.getElem?_cons_succ, Option.bind, Act.put, List.setIfInBounds_toArray, List.set_cons_zero, List.set_cons_succ]
              refine till_take 10 8 true (v := ?v10a) (by kernel_rfl) (by kernel_rfl) (by kernel_rfl) (by kernel_rfl) (by kernel_rfl) (fun _ _ _ h => h) ?hw10a S0 ?hy10a ?rest10a
              case hw10a => (simp only [List.getElem?_toArray, List.getElem?_cons_zero, List.getElem?_cons_succ, Option.elim]; rfl)
              case hy10a => (simp only [List.getElem?_toArray, List.getElem?_cons_zero, List.getElem?_cons_succ, Option.elim]; intro wx hx; have x0 := hx trivial; go_simp; with_reducible rfl)
              simp only [dstOf, List.getElem?_toArray, List.getElem?_cons_zero, List.getElem?_cons_succ, Option.bind, Act.put, List.setIfInBounds_toArray, List.set_cons_zero, List.set_cons_succ]
              refine till_before 5 (by kernel_rfl) (fun K hK => ?_)
              simp only [List.getElem?_toArray, List.getElem?_cons_zero, List.getElem?_cons_succ, Option.elim]
              rw [if_pos (by rfl)]
              go_simp
              go_at_call 14
              refine (HO1.out).mono ?_
              rintro e w5 ⟨rfl, m5⟩
              refine hK.out _ _ (SS.out _ m5.below) ?_
              clear hK K
              try simp only [Act.put, List.setIfInBounds_toArray, List.set_cons_zero, List.set_cons_succ]
              have M5 := Lib.hid (show OMem w w5 [.names b (ofs [] l), .own 9 (.slice a3 (ofs [] l).length c3) (strVs (ofs [] l)), .names b2 (ofs [] l)] from m5)
              have HO2 := Lib.hid (n_of_eq M5.out (i := 0) rfl (whole_of HT.out hlt) (by omega))
              clear m5 HO1 S0
              refine till_before 11 (by kernel_rfl) (fun K hK => ?_)
              simp only [List.getElem?_toArray, List.getElem?_cons_zero, List.getElem?_cons_succ, Option.elim]
              rw [if_pos (by rfl)]
              go_simp
              go_at_call 14
              refine (HO2.out).mono ?_
              rintro e w6 ⟨rfl, m6⟩
              refine hK.out _ _ (SS.out _ m6.below) ?_
              clear hK K
              try simp only [Act.put, List.setIfInBounds_toArray, List.set_cons_zero, List.set_cons_succ]
              have M6 := Lib.hid (show OMem w w6 [.names b (ofs [] l), .own 9 (.slice a3 (ofs [] l).length c3) (strVs (ofs [] l)), .names b2 (ofs [] l)] from m6)
              clear m6 HO2
              refine till_step 12 (by kernel_rfl) (by kernel_rfl) (fun K hK => ?_)
              simp only [List.getElem?_toArray, List.getElem?_cons_zero, List.getElem?_cons_succ, Option.elim]
              rw [if_pos (by rfl)]
              go_simp
              refine hK.out _ _ ?_
              clear hK K
              try simp only [Act.put, List.setIfInBounds_toArray, List.set_cons_zero, List.set_cons_succ]
              refine till_end (by kernel_rfl) ?_ _
              go_wp2
              go_roundw
              case rel => exact ⟨k + 1, by omega, by go_num, M6.out⟩
              case measure => simp [intOf]; omega
            · obtain rfl : k = l.length := by omega
              go_wp2
              go_loopw [11] (fun i wr => ∃ k : Nat, k ≤ more.length ∧ i = .int .i64 k ∧ OMem w wr [.names b (ofs (ofs [] l) (more.take k)), .own 9 (.slice a3 (ofs [] l).length c3) (strVs (ofs [] l)), .names b2 (ofs (ofs [] l) (more.take k))]) (fun i _ => more.length - (intOf i).toNat)
              case atStart => exact ⟨0, Nat.zero_le _, rfl, M.out⟩
              case round =>
                obtain ⟨k, hk, rfl, hm⟩ := hrel
                have M0 := Lib.hid hm
                clear hm M
                by_cases hlt : k < more.length
                · have hl1 : (ofs (ofs [] l) (more.take k)).length ≤ (ofs [] l).length + k := by have := ofs_len (ofs [] l) (more.take k); simp at this; omega
                  obtain ⟨z, hz⟩ : ∃ z, of (ofs (ofs [] l) (more.take k)) more[k] = (z, ofs (ofs [] l) (more.take (k + 1))) := ⟨_, Prod.ext rfl (ofs_take _ _ k hlt).symm⟩
                  obtain ⟨_, _, h1, hac⟩ := (HU.out.keep M0.out.below).form
                  simp only [Value.slice.injEq] at h1
                  obtain ⟨h1, -, -⟩ := h1
                  subst h1
                  obtain ⟨lb, lo, h1, hck⟩ := hac k hlt
                  subst h1
                  clear hac
                  have SS := Lib.hid (fun w5 (m5 : Below w.heap.size w w5) => RowAt.at_ (HU.out.keep m5) (arg_at hlt))
                  have S0 : wr.drew.cell? ⟨lb, lo + k, none⟩ = some (.string more[k]) := SS.out _ M0.out.drew.below
                  have HO1 := Lib.hid (n_of_eq M0.out.drew (i := 2) rfl hz (by omega))
                  have HZ := Lib.hid hz
                  clear hck hz
                  go_wp2
                  refine region_till 12 (fun w' => w'.cell? ⟨lb, lo + k, none⟩ = some (.string more[k])) (by kernel_rfl) ?_
                  refine till_take 0 8 false (v := ?v0b) (by kernel_rfl) (by kernel_rfl) (by kernel_rfl) (by kernel_rfl) (by kernel_rfl) (fun _ _ _ h => h) ?hw0b S0 ?hy0b ?rest0b
                  case hw0b => (simp only [List.getElem?_toArray, List.getElem?_cons_zero, Option.elim]; rfl)
                  case hy0b => (simp only [List.getElem?_toArray, List.getElem?_cons_zero, Option.elim]; intro wx _; go_simp; with_reducible rfl)
                  simp only [dstOf, List.getElem?_toArray, List.getElem?_cons_zero, Option.bind, Act.put, List.setIfInBounds_toArray, List.set_cons_zero, List.set_cons_succ]
                  refine till_take 1 8 false (v := ?v1b) (by kernel_rfl) (by kernel_rfl) (by kernel_rfl) (by kernel_rfl) (by kernel_rfl) (fun _ _ _ h => h) ?hw1b S0 ?hy1b ?rest1b
                  case hw1b => (simp only [List.getElem?_toArray, List.getElem?_cons_zero, List.getElem?_cons_succ, Option.elim]; rfl)
                  case hy1b => (simp only [List.getElem?_toArray, List.getElem?_cons_zero, List.getElem?_cons_succ, Option.elim]; intro wx _; go_simp; with_reducible rfl)
                  simp only [dstOf, List.getElem?_toArray, List.getElem?_cons_zero, List.getElem?_cons_succ, Option.bind, Act.put, List.setIfInBounds_toArray, List.set_cons_zero, List.set_cons_succ]
                  refine till_take 2 8 false (v := ?v2b) (by kernel_rfl) (by kernel_rfl) (by kernel_rfl) (by kernel_rfl) (by kernel_rfl) (fun _ _ _ h => h) ?hw2b S0 ?hy2b ?rest2b
                  case hw2b => (simp only [List.getElem?_toArray, List.getElem?_cons_zero, List.getElem?_cons_succ, Option.elim]; rfl)
                  case hy2b => (simp only [List.getElem?_toArray, List.getElem?_cons_zero, List.getElem?_cons_succ, Option.elim]; intro wx _; go_simp; with_reducible rfl)
                  simp only [dstOf, List.getElem?_toArray, List.getElem?_cons_zero, List.getElem?_cons_succ, Option.bind, Act.put, List.setIfInBounds_toArray, List.set_cons_zero, List.set_cons_succ]
                  refine till_take 3 8 false (v := ?v3b) (by kernel_rfl) (by kernel_rfl) (by kernel_rfl) (by kernel_rfl) (by kernel_rfl) (fun _ _ _ h => h) ?hw3b S0 ?hy3b ?rest3b
                  case hw3b => (simp only [List.getElem?_toArray, List.getElem?_cons_zero, List.getElem?_cons_succ, Option.elim]; rfl)
                  case hy3b => (simp only [List.getElem?_toArray, List.getElem?_cons_zero, List.getElem?_cons_succ, Option.elim]; intro wx _; go_simp; with_reducible rfl)
                  simp only [dstOf, List.getElem?_toArray, List.getElem?_cons_zero, List.getElem?_cons_succ, Option.bind, Act.put, List.setIfInBounds_toArray, List.set_cons_zero, List.set_cons_succ]
                  refine till_take 4 8 true (v := ?v4b) (by kernel_rfl) (by kernel_rfl) (by kernel_rfl) (by kernel_rfl) (by kernel_rfl) (fun _ _ _ h => h) ?hw4b S0 ?hy4b ?rest4b
                  case hw4b => (simp only [List.getElem?_toArray, List.getElem?_cons_zero, List.getElem?_cons_succ, Option.elim]; rfl)
                  case hy4b => (simp only [List.getElem?_toArray, List.getElem?_cons_zero, List.getElem?_cons_succ, Option.elim]; intro wx hx; have x0 := hx trivial; go_simp; with_reducible rfl)
                  simp only [dstOf, List.getElem?_toArray, List.getElem?_cons_zero, List.getElem?_cons_succ, Option.bind, Act.put, List.setIfInBounds_toArray, List.set_cons_zero, List.set_cons_succ]
                  refine till_take 6 8 false (v := ?v6b) (by kernel_rfl) (by kernel_rfl) (by kernel_rfl) (by kernel_rfl) (by kernel_rfl) (fun _ _ _ h => h) ?hw6b S0 ?hy6b ?rest6b
                  case hw6b => (simp only [List.getElem?_toArray, List.getElem?_cons_zero, List.getElem?_cons_succ, Option.elim]; rfl)
                  case hy6b => (simp only [List.getElem?_toArray, List.getElem?_cons_zero, List.getElem?_cons_succ, Option.elim]; intro wx _; go_simp; with_reducible rfl)
                  simp only [dstOf, List.getElem?_toArray, List.getElem?_cons_zero, List.getElem?_cons_succ, Option.bind, Act.put, List.setIfInBounds_toArray, List.set_cons_zero, List.set_cons_succ]
                  refine till_take 7 8 false (v := ?v7b) (by kernel_rfl) (by kernel_rfl) (by kernel_rfl) (by kernel_rfl) (by kernel_rfl) (fun _ _ _ h => h) ?hw7b S0 ?hy7b ?rest7b
                  case hw7b => (simp only [List.getElem?_toArray, List.getElem?_cons_zero, List.getElem?_cons_succ, Option.elim]; rfl)
                  case hy7b => (simp only [List.getElem?_toArray, List.getElem?_cons_zero, List.getElem?_cons_succ, Option.elim]; intro wx _; go_simp; with_reducible rfl)
                  simp only [dstOf, List.getElem?_toArray, List.getElem?_cons_zero, List.getElem?_cons_succ, Option.bind, Act.put, List.setIfInBounds_toArray, List.set_cons_zero, List.set_cons_succ]
                  refine till_take 8 8 false (v := ?v8b) (by kernel_rfl) (by kernel_rfl) (by kernel_rfl) (by kernel_rfl) (by kernel_rfl) (fun _ _ _ h => h) ?hw8b S0 ?hy8b ?rest8b
                  case hw8b => (simp only [List.getElem?_toArray, List.getElem?_cons_zero, List.getElem?_cons_succ, Option.elim]; rfl)
                  case hy8b => (simp only [List.getElem?_toArray, List.getElem?_cons_zero, List.getElem?_cons_succ, Option.elim]; intro wx _; go_simp; with_reducible rfl)
                  simp only [dstOf, List.getElem?_toArray, List.getElem?_cons_zero, List.getElem?_cons_succ, Option.bind, Act.put, List.setIfInBounds_toArray, List.set_cons_zero, List.set_cons_succ]
                  refine till_take 9 8 false (v := ?v9b) (by kernel_rfl) (by kernel_rfl) (by kernel_rfl) (by kernel_rfl) (by kernel_rfl) (fun _ _ _ h => h) ?hw9b S0 ?hy9b ?rest9b
                  case hw9b => (simp only [List.getElem?_toArray, List.getElem?_cons_zero, List.getElem?_cons_succ, Option.elim]; rfl)
                  case hy9b => (simp only [List.getElem?_toArray, List.getElem?_cons_zero, List.getElem?_cons_succ, Option.elim]; intro wx _; go_simp; with_reducible rfl)
                  simp only [dstOf, List.getElem?_toArray, List.getElem?_cons_zero, List.getElem?_cons_succ, Option.bind, Act.put, List.setIfInBounds_toArray, List.set_cons_zero, List.set_cons_succ]
                  refine till_take 10 8 true (v := ?v10b) (by kernel_rfl) (by kernel_rfl) (by kernel_rfl) (by kernel_rfl) (by kernel_rfl) (fun _ _ _ h => h) ?hw10b S0 ?hy10b ?rest10b
                  case hw10b => (simp only [List.getElem?_toArray, List.getElem?_cons_zero, List.getElem?_cons_succ, Option.elim]; rfl)
                  case hy10b => (simp only [List.getElem?_toArray, List.getElem?_cons_zero, List.getElem?_cons_succ, Option.elim]; intro wx hx; have x0 := hx trivial; go_simp; with_reducible rfl)
                  simp only [dstOf, List.getElem?_toArray, List.getElem?_cons_zero, List.getElem?_cons_succ, Option.bind, Act.put, List.setIfInBounds_toArray, List.set_cons_zero, List.set_cons_succ]
                  refine till_before 5 (by kernel_rfl) (fun K hK => ?_)
                  simp only [List.getElem?_toArray, List.getElem?_cons_zero, List.getElem?_cons_succ, Option.elim]
                  rw [if_pos (by rfl)]
                  go_simp
                  go_at_call 14
                  refine (HO1.out).mono ?_
                  rintro e w5 ⟨rfl, m5⟩
                  refine hK.out _ _ (SS.out _ m5.below) ?_
                  clear hK K
                  try simp only [Act.put, List.setIfInBounds_toArray, List.set_cons_zero, List.set_cons_succ]
                  have M5 := Lib.hid (show OMem w w5 [.names b (ofs (ofs [] l) (more.take k)), .own 9 (.slice a3 (ofs [] l).length c3) (strVs (ofs [] l)), .names b2 (ofs (ofs [] l) (more.take (k + 1)))] from m5)
                  have HO2 := Lib.hid (n_of_eq M5.out (i := 0) rfl HZ.out (by omega))
                  clear m5 HO1 S0
                  refine till_before 11 (by kernel_rfl) (fun K hK => ?_)
                  simp only [List.getElem?_toArray, List.getElem?_cons_zero, List.getElem?_cons_succ, Option.elim]
                  rw [if_pos (by rfl)]
                  go_simp
                  go_at_call 14
                  refine (HO2.out).mono ?_
                  rintro e w6 ⟨rfl, m6⟩
                  refine hK.out _ _ (SS.out _ m6.below) ?_
                  clear hK K
                  try simp only [Act.put, List.setIfInBounds_toArray, List.set_cons_zero, List.set_cons_succ]
                  have M6 := Lib.hid (show OMem w w6 [.names b (ofs (ofs [] l) (more.take (k + 1))), .own 9 (.slice a3 (ofs [] l).length c3) (strVs (ofs [] l)), .names b2 (ofs (ofs [] l) (more.take (k + 1)))] from m6)
                  clear m6 HO2
                  refine till_step 12 (by kernel_rfl) (by kernel_rfl) (fun K hK => ?_)
                  simp only [List.getElem?_toArray, List.getElem?_cons_zero, List.getElem?_cons_succ, Option.elim]
                  rw [if_pos (by rfl)]
                  go_simp
                  refine hK.out _ _ ?_
                  clear hK K
                  try simp only [Act.put, List.setIfInBounds_toArray, List.set_cons_zero, List.set_cons_succ]
                  refine till_end (by kernel_rfl) ?_ _
                  go_wp2
                  go_roundw
                  case rel => exact ⟨k + 1, by omega, by go_num, M6.out⟩
                  case measure => simp [intOf]; omega
                · obtain rfl : k = more.length := by omega
                  have hm := M0.out
                  rw [List.take_length] at hm
                  have MA := Lib.hid hm
                  clear hm M0
                  have hpm : (ofs (ofs [] l) more).length ≤ (ofs [] l).length + more.length := ofs_len (ofs [] l) more
                  have HTB := Lib.hid (ofs_text HTT.out more)
                  go_wp2_with (go_at_call 21; refine (n_all MA.out (i := 2) rfl HTB.out (by omega)).mono ?_; rintro e w3 ⟨vb, rfl, m3⟩; refine Hid.out ?_)
                  refine Lib.hid ?_
                  have M3 := Lib.hid (show OMem w w3 [.names b (ofs (ofs [] l) more), .own 9 (.slice a3 (ofs [] l).length c3) (strVs (ofs [] l)), .names b2 (ofs (ofs [] l) more), .own 9 vb (strVs (ofs (ofs [] l) more))] from m3)
                  clear m3 MA
                  go_wp2_with (go_at_call 21; refine (n_all M3.out (i := 0) rfl HTB.out (by omega)).mono ?_; rintro e w4 ⟨vc, rfl, m4⟩; refine Hid.out ?_)
                  refine Lib.hid ?_
                  have M4 := Lib.hid (show OMem w w4 [.names b (ofs (ofs [] l) more), .own 9 (.slice a3 (ofs [] l).length c3) (strVs (ofs [] l)), .names b2 (ofs (ofs [] l) more), .own 9 vb (strVs (ofs (ofs [] l) more)), .own 9 vc (strVs (ofs (ofs [] l) more))] from m4)
                  clear m4 M3
                  have HS := strings_any vb vc _ _ (M4.out.texts (i := 3) rfl) (M4.out.texts (i := 4) rfl) (by omega)
                  rw [decide_eq_true rfl] at HS
                  have HS := Lib.hid HS
                  go_wp2_with (go_at_call 20; refine (HS.out).mono ?_; rintro e w5 ⟨rfl, hb5⟩; refine Hid.out ?_)
                  refine Lib.hid ?_
                  have M5 := Lib.hid (show OMem w w5 [.names b (ofs (ofs [] l) more)] from (M4.out.fresh hb5).take 1)
                  clear hb5 M4 HS
                  by_cases h0 : l.length = 0
                  · go_wp2
                    go_ret
                    exact ⟨rfl, M5.out.below⟩
                  · have hlt : 0 < l.length := by omega
                    have hpos : ¬ ((l.length : Int) = 0) := by omega
                    clear h0
                    obtain ⟨_, _, h1, hac⟩ := (HL.out.keep M5.out.below).form
                    simp only [Value.slice.injEq] at h1
                    obtain ⟨h1, -, -⟩ := h1
                    subst h1
                    obtain ⟨lb, lo, h1, -⟩ := hac 0 hlt
                    subst h1
                    have SS := Lib.hid (fun w5 (m5 : Below w.heap.size w w5) => RowAt.at_ (HL.out.keep m5) (arg_at hlt))
                    have S0 : w5.drew.cell? ⟨lb, lo + 0, none⟩ = some (.string l[0]) := SS.out _ M5.out.drew.below
                    simp only [Nat.add_zero] at S0
                    have HAA := Lib.hid (n_all M5.out.drew (i := 0) rfl HTB.out (by omega))
                    have hqb : Below w5.drew.heap.size w5.drew (w5.drew.alloc (.cells #[.string l[0]] 9)) := (Below.refl _ _).alloc (Nat.le_refl _) _
                    have HAB := Lib.hid (n_all_b (M5.out.drew.fresh hqb) (i := 0) rfl HTB.out (by omega))
                    have HQB := Lib.hid (M5.out.drew.fresh hqb)
                    have HTW := Lib.hid (opened_twice (l := ofs (ofs [] l) more ++ [l[0]]) (by
                      intro s hs
                      rcases List.mem_append.1 hs with q | q
                      · exact HTB.out s q
                      · simp at q; subst q; exact HT.out _ (List.getElem_mem hlt)) (twice_not (ofs_left _ _ (ofs_mem (List.getElem_mem hlt) (HT.out _ (List.getElem_mem hlt))))))
                    clear hac hqb
                    go_wp2
                    refine region_till 6 (fun w' => w'.cell? ⟨lb, lo, none⟩ = some (.string l[0])) (by kernel_rfl) ?_
                    refine till_take 0 8 false (v := ?v0c) (by kernel_rfl) (by kernel_rfl) (by kernel_rfl) (by kernel_rfl) (by kernel_rfl) (fun _ _ _ h => h) ?hw0c S0 ?hy0c ?rest0c
                    case hw0c => (simp only [List.getElem?_toArray, List.getElem?_cons_zero, Option.elim]; rfl)
                    case hy0c => (simp only [List.getElem?_toArray, List.getElem?_cons_zero, Option.elim]; intro wx _; go_simp; with_reducible rfl)
                    simp only [dstOf, List.getElem?_toArray, List.getElem?_cons_zero, Option.bind, Act.put, List.setIfInBounds_toArray, List.set_cons_zero, List.set_cons_succ]
                    refine till_take 2 8 false (v := ?v2c) (by kernel_rfl) (by kernel_rfl) (by kernel_rfl) (by kernel_rfl) (by kernel_rfl) (fun _ _ _ h => h) ?hw2c S0 ?hy2c ?rest2c
                    case hw2c => (simp only [List.getElem?_toArray, List.getElem?_cons_zero, List.getElem?_cons_succ, Option.elim]; rfl)
                    case hy2c => (simp only [List.getElem?_toArray, List.getElem?_cons_zero, List.getElem?_cons_succ, Option.elim]; intro wx _; go_simp; with_reducible rfl)
                    simp only [dstOf, List.getElem?_toArray, List.getElem?_cons_zero, List.getElem?_cons_succ, Option.bind, Act.put, List.setIfInBounds_toArray, List.set_cons_zero, List.set_cons_succ]
                    refine till_take 3 8 false (v := ?v3c) (by kernel_rfl) (by kernel_rfl) (by kernel_rfl) (by kernel_rfl) (by kernel_rfl) (fun _ _ _ h => h) ?hw3c S0 ?hy3c ?rest3c
                    case hw3c => (simp only [List.getElem?_toArray, List.getElem?_cons_zero, List.getElem?_cons_succ, Option.elim]; rfl)
                    case hy3c => (simp only [List.getElem?_toArray, List.getElem?_cons_zero, List.getElem?_cons_succ, Option.elim]; intro wx _; go_simp; with_reducible rfl)
                    simp only [dstOf, List.getElem?_toArray, List.getElem?_cons_zero, List.getElem?_cons_succ, Option.bind, Act.put, List.setIfInBounds_toArray, List.set_cons_zero, List.set_cons_succ]
                    refine till_take 4 8 true (v := ?v4c) (by kernel_rfl) (by kernel_rfl) (by kernel_rfl) (by kernel_rfl) (by kernel_rfl) (fun _ _ _ h => h) ?hw4c S0 ?hy4c ?rest4c
                    case hw4c => (simp only [List.getElem?_toArray, List.getElem?_cons_zero, List.getElem?_cons_succ, Option.elim]; rfl)
                    case hy4c => (simp only [List.getElem?_toArray, List.getElem?_cons_zero, List.getElem?_cons_succ, Option.elim]; intro wx hx; have x0 := hx trivial; go_simp; with_reducible rfl)
                    simp only [dstOf, List.getElem?_toArray, List.getElem?_cons_zero, List.getElem?_cons_succ, Option.bind, Act.put, List.setIfInBounds_toArray, List.set_cons_zero, List.set_cons_succ]
                    refine till_split 1 5 (by kernel_rfl) ?_ ?_
                    · intro K hK
                      simp only [List.getElem?_toArray, List.getElem?_cons_zero, List.getElem?_cons_succ, Option.elim]
                      rw [if_pos (by rfl)]
                      go_simp
                      go_at_call 21
                      refine (HAA.out).mono ?_
                      rintro e w6 ⟨vd, rfl, m6⟩
                      refine hK.out _ _ (SS.out _ m6.below) ?_
                      clear hK K
                      try simp only [Act.put, List.setIfInBounds_toArray, List.set_cons_zero, List.set_cons_succ]
                      have M6 := Lib.hid (show OMem w w6 [.names b (ofs (ofs [] l) more), .own 9 vd (strVs (ofs (ofs [] l) more))] from m6)
                      clear m6 HAA HAB HQB S0
                      obtain ⟨a6, c6, hvd, -⟩ := (M6.out.texts (i := 1) rfl).form
                      subst hvd
                      have M7 := M6.out.fresh (show Below w6.heap.size w6 (w6.alloc (.cells #[.string l[0]] 9)) from (Below.refl _ _).alloc (Nat.le_refl _) _)
                      have S7 := SS.out _ M7.below
                      obtain ⟨v7, w7, hpr, mp, a7, c7, hv7⟩ := M7.pushStr (i := 1) rfl (z := l[0]) (q := w6.heap.size) (by rw [Lib.cell_of_heap (MapKept.heap_alloc w6 _).1]; rfl) (by omega)
                      subst hv7
                      rw [List.length_append] at hpr mp
                      have MP := Lib.hid (show OMem w w7 [.names b (ofs (ofs [] l) more), .own 9 (.slice a7 ((ofs (ofs [] l) more).length + 1) c7) (strVs (ofs (ofs [] l) more ++ [l[0]]))] from mp)
                      have HP := Lib.hid hpr
                      have HOP := Lib.hid (n_open_no MP.out (MP.out.texts (i := 1) rfl) (by simp; omega) HTW.out)
                      clear mp hpr
                      refine till_before 5 (by kernel_rfl) (fun K hK => ?_)
                      simp only [List.getElem?_toArray, List.getElem?_cons_zero, List.getElem?_cons_succ, Option.elim]
                      rw [if_pos (by rfl)]
                      go_simp
                      refine hK.out _ _ (S7) ?_
                      clear hK K
                      try simp only [Act.put, List.setIfInBounds_toArray, List.set_cons_zero, List.set_cons_succ]
                      refine till_step 6 (by kernel_rfl) (by kernel_rfl) (fun K hK => ?_)
                      simp only [List.getElem?_toArray, List.getElem?_cons_zero, List.getElem?_cons_succ, Option.elim]
                      rw [if_pos (by rfl)]
                      refine Lib.wp_append_run _ (.tmp 101) (.tmp 105) 22 22 rfl _ _ rfl rfl _ _ HP.out ?_
                      refine hK.out _ _ ?_
                      clear hK K
                      try simp only [Act.put, List.setIfInBounds_toArray, List.set_cons_zero, List.set_cons_succ]
                      refine till_step 7 (by kernel_rfl) (by kernel_rfl) (fun K hK => ?_)
                      simp only [List.getElem?_toArray, List.getElem?_cons_zero, List.getElem?_cons_succ, Option.elim]
                      rw [if_pos (by rfl)]
                      go_simp
                      go_at_call 9
                      refine (HOP.out).mono ?_
                      rintro e w8 ⟨rfl, m8⟩
                      refine hK.out _ _ ?_
                      clear hK K
                      try simp only [Act.put, List.setIfInBounds_toArray, List.set_cons_zero, List.set_cons_succ]
                      have M8 := Lib.hid m8
                      clear m8 HOP
                      refine till_step 8 (by kernel_rfl) (by kernel_rfl) (fun K hK => ?_)
                      simp only [List.getElem?_toArray, List.getElem?_cons_zero, List.getElem?_cons_succ, Option.elim]
                      rw [if_pos (by rfl)]
                      go_simp
                      refine hK.out _ _ ?_
                      clear hK K
                      try simp only [Act.put, List.setIfInBounds_toArray, List.set_cons_zero, List.set_cons_succ]
                      refine till_late 9 (v := ?v9d) (by kernel_rfl) (by kernel_rfl) (by kernel_rfl) (by kernel_rfl) (fun _ _ _ h => h) (by kernel_rfl) ?hw9d ?hy9d ?rest9d
                      case hw9d => (simp only [List.getElem?_toArray, List.getElem?_cons_zero, List.getElem?_cons_succ, Option.elim]; rfl)
                      case hy9d => (simp only [List.getElem?_toArray, List.getElem?_cons_zero, List.getElem?_cons_succ, Option.elim]; intro wx; go_simp; with_reducible rfl)
                      simp only [dstOf, List.getElem?_toArray, List.getElem?_cons_zero, List.getElem?_cons_succ, Option.bind, Act.put, List.setIfInBounds_toArray, List.set_cons_zero, List.set_cons_succ]
                      refine till_late 10 (v := ?v10d) (by kernel_rfl) (by kernel_rfl) (by kernel_rfl) (by kernel_rfl) (fun _ _ _ h => h) (by kernel_rfl) ?hw10d ?hy10d ?rest10d
                      case hw10d => (simp only [List.getElem?_toArray, List.getElem?_cons_zero, List.getElem?_cons_succ, Option.elim]; rfl)
                      case hy10d => (simp only [List.getElem?_toArray, List.getElem?_cons_zero, List.getElem?_cons_succ, Option.elim]; intro wx; go_simp; with_reducible rfl)
                      simp only [dstOf, List.getElem?_toArray, List.getElem?_cons_zero, List.getElem?_cons_succ, Option.bind, Act.put, List.setIfInBounds_toArray, List.set_cons_zero, List.set_cons_succ]
                      refine till_step 11 (by kernel_rfl) (by kernel_rfl) (fun K hK => ?_)
                      simp only [List.getElem?_toArray, List.getElem?_cons_zero, List.getElem?_cons_succ, Option.elim]
                      rw [if_pos (by rfl)]
                      go_simp
                      refine hK.out _ _ ?_
                      clear hK K
                      try simp only [Act.put, List.setIfInBounds_toArray, List.set_cons_zero, List.set_cons_succ]
                      refine till_step 12 (by kernel_rfl) (by kernel_rfl) (fun K hK => ?_)
                      simp only [List.getElem?_toArray, List.getElem?_cons_zero, List.getElem?_cons_succ, Option.elim]
                      rw [if_pos (by rfl)]
                      go_simp
                      refine hK.out _ _ ?_
                      clear hK K
                      try simp only [Act.put, List.setIfInBounds_toArray, List.set_cons_zero, List.set_cons_succ]
                      refine till_end (by kernel_rfl) ?_ _
                      go_wp2
                      go_ret
                      exact ⟨rfl, M8.out.below⟩
                    · intro K hK
                      simp only [List.getElem?_toArray, List.getElem?_cons_zero, List.getElem?_cons_succ, Option.elim]
                      rw [if_pos (by rfl)]
                      go_simp
                      refine hK.out _ _ (SS.out _ HQB.out.below) ?_
                      clear hK K
                      try simp only [Act.put, List.setIfInBounds_toArray, List.set_cons_zero, List.set_cons_succ]
                      refine till_before 1 (by kernel_rfl) (fun K hK => ?_)
                      simp only [List.getElem?_toArray, List.getElem?_cons_zero, List.getElem?_cons_succ, Option.elim]
                      rw [if_pos (by rfl)]
                      go_simp
                      go_at_call 21
                      refine (HAB.out).mono ?_
                      rintro e w6 ⟨vd, rfl, m6, hb6⟩
                      refine hK.out _ _ (SS.out _ m6.below) ?_
                      clear hK K
                      try simp only [Act.put, List.setIfInBounds_toArray, List.set_cons_zero, List.set_cons_succ]
                      have M6 := Lib.hid (show OMem w w6 [.names b (ofs (ofs [] l) more), .own 9 vd (strVs (ofs (ofs [] l) more))] from m6)
                      clear m6 HAA HAB HQB S0
                      obtain ⟨a6, c6, hvd, -⟩ := (M6.out.texts (i := 1) rfl).form
                      subst hvd
                      obtain ⟨v7, w7, hpr, mp, a7, c7, hv7⟩ := M6.out.pushStr (i := 1) rfl (z := l[0]) (q := w5.drew.heap.size) (below_cell (by rw [Lib.cell_of_heap (MapKept.heap_alloc w5.drew _).1]; rfl) hb6) (by omega)
                      subst hv7
                      clear hb6
                      rw [List.length_append] at hpr mp
                      have MP := Lib.hid (show OMem w w7 [.names b (ofs (ofs [] l) more), .own 9 (.slice a7 ((ofs (ofs [] l) more).length + 1) c7) (strVs (ofs (ofs [] l) more ++ [l[0]]))] from mp)
                      have HP := Lib.hid hpr
                      have HOP := Lib.hid (n_open_no MP.out (MP.out.texts (i := 1) rfl) (by simp; omega) HTW.out)
                      clear mp hpr
                      refine till_step 6 (by kernel_rfl) (by kernel_rfl) (fun K hK => ?_)
                      simp only [List.getElem?_toArray, List.getElem?_cons_zero, List.getElem?_cons_succ, Option.elim]
                      rw [if_pos (by rfl)]
                      refine Lib.wp_append_run _ (.tmp 101) (.tmp 105) 22 22 rfl _ _ rfl rfl _ _ HP.out ?_
                      refine hK.out _ _ ?_
                      clear hK K
                      try simp only [Act.put, List.setIfInBounds_toArray, List.set_cons_zero, List.set_cons_succ]
                      refine till_step 7 (by kernel_rfl) (by kernel_rfl) (fun K hK => ?_)
                      simp only [List.getElem?_toArray, List.getElem?_cons_zero, List.getElem?_cons_succ, Option.elim]
                      rw [if_pos (by rfl)]
                      go_simp
                      go_at_call 9
                      refine (HOP.out).mono ?_
                      rintro e w8 ⟨rfl, m8⟩
                      refine hK.out _ _ ?_
                      clear hK K
                      try simp only [Act.put, List.setIfInBounds_toArray, List.set_cons_zero, List.set_cons_succ]
                      have M8 := Lib.hid m8
                      clear m8 HOP
                      refine till_step 8 (by kernel_rfl) (by kernel_rfl) (fun K hK => ?_)
                      simp only [List.getElem?_toArray, List.getElem?_cons_zero, List.getElem?_cons_succ, Option.elim]
                      rw [if_pos (by rfl)]
                      go_simp
                      refine hK.out _ _ ?_
                      clear hK K
                      try simp only [Act.put, List.setIfInBounds_toArray, List.set_cons_zero, List.set_cons_succ]
                      refine till_late 9 (v := ?v9e) (by kernel_rfl) (by kernel_rfl) (by kernel_rfl) (by kernel_rfl) (fun _ _ _ h => h) (by kernel_rfl) ?hw9e ?hy9e ?rest9e
                      case hw9e => (simp only [List.getElem?_toArray, List.getElem?_cons_zero, List.getElem?_cons_succ, Option.elim]; rfl)
                      case hy9e => (simp only [List.getElem?_toArray, List.getElem?_cons_zero, List.getElem?_cons_succ, Option.elim]; intro wx; go_simp; with_reducible rfl)
                      simp only [dstOf, List.getElem?_toArray, List.getElem?_cons_zero, List.getElem?_cons_succ, Option.bind, Act.put, List.setIfInBounds_toArray, List.set_cons_zero, List.set_cons_succ]
                      refine till_late 10 (v := ?v10e) (by kernel_rfl) (by kernel_rfl) (by kernel_rfl) (by kernel_rfl) (fun _ _ _ h => h) (by kernel_rfl) ?hw10e ?hy10e ?rest10e
                      case hw10e => (simp only [List.getElem?_toArray, List.getElem?_cons_zero, List.getElem?_cons_succ, Option.elim]; rfl)
                      case hy10e => (simp only [List.getElem?_toArray, List.getElem?_cons_zero, List.getElem?_cons_succ, Option.elim]; intro wx; go_simp; with_reducible rfl)
                      simp only [dstOf, List.getElem?_toArray, List.getElem?_cons_zero, List.getElem?_cons_succ, Option.bind, Act.put, List.setIfInBounds_toArray, List.set_cons_zero, List.set_cons_succ]
                      refine till_step 11 (by kernel_rfl) (by kernel_rfl) (fun K hK => ?_)
                      simp only [List.getElem?_toArray, List.getElem?_cons_zero, List.getElem?_cons_succ, Option.elim]
                      rw [if_pos (by rfl)]
                      go_simp
                      refine hK.out _ _ ?_
                      clear hK K
                      try simp only [Act.put, List.setIfInBounds_toArray, List.set_cons_zero, List.set_cons_succ]
                      refine till_step 12 (by kernel_rfl) (by kernel_rfl) (fun K hK => ?_)
                      simp only [List.getElem?_toArray, List.getElem?_cons_zero, List.getElem?_cons_succ, Option.elim]
                      rw [if_pos (by rfl)]
                      go_simp
                      refine hK.out _ _ ?_
                      clear hK K
                      try simp only [Act.put, List.setIfInBounds_toArray, List.set_cons_zero, List.set_cons_succ]
                      refine till_end (by kernel_rfl) ?_ _
                      go_wp2
                      go_ret
                      exact ⟨rfl, M8.out.below⟩
    · have hgg : few more 12 = false := by simpa using hg
      rw [hgg] at HF2
      clear hg hgg
      go_wp2_with (go_at_call 8; refine (HF2.out).mono ?_; rintro e w3 ⟨rfl, rfl⟩; refine Hid.out ?_)
      refine Lib.hid ?_
      clear HF2
      go_wp2
      go_ret
      exact ⟨rfl, M2.out.below⟩
  · have hff : few l 24 = false := by simpa using hf
    rw [hff] at HF1
    clear hf hff
    go_wp2_with (go_at_call 8; refine (HF1.out).mono ?_; rintro e w3 ⟨rfl, rfl⟩; refine Hid.out ?_)
    refine Lib.hid ?_
    clear HF1
    go_wp2
    go_ret
    exact ⟨rfl, M2.out.below⟩
end Go.Proofs.Ytjhedlkanphlhaa

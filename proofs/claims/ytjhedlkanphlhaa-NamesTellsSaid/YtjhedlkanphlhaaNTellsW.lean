/- The walk of NamesTells. -/
import Derived.Test.YtjhedlkanphlhaaNRef2
namespace Go.Proofs.Ytjhedlkanphlhaa
open Go.RowKit Go.Maps Go.ChangeMaps Go.MapKept
open Np
attribute [local go_sem ↓] Go.wp_at_zero Go.wp_at_succ

section
variable {w0 w : World} {os : List Ob} {i b : Nat} {T : List ByteArray}
theorem n_open_any (h : OMem w0 w os) {v : Value} {l : List ByteArray} (hv : TextsAt w v l) (hn : l.length ≤ 100000) {r : Int} (ho : (opened l).1 = r) : Calls Try.prog 9 #[v] w fun e w' => ∃ p, e = .returned (.tuple #[.pointer p, .int .i64 r]) ∧ OMem w0 w' os := by
  refine (n_open h v l hv hn).mono fun e w' hp => ?_
  rcases hp with ⟨_, h1, h2⟩ | ⟨_, b, h1, h2⟩
  · rw [ho] at h1; exact ⟨_, h1, h2⟩
  · rw [ho] at h1; exact ⟨_, h1, by have := h2.take os.length; rwa [List.take_left] at this⟩
theorem r_open_any (h : OMem w0 w os) {v : Value} {l : List ByteArray} (hv : TextsAt w v l) (hn : l.length ≤ 100000) {r : Int} (ho : (opened l).1 = r) : Calls Try.prog 11 #[v] w fun e w' => ∃ p, e = .returned (.tuple #[.pointer p, .int .i64 r]) ∧ OMem w0 w' os := by
  refine (r_open h v l hv hn).mono fun e w' hp => ?_
  rcases hp with ⟨_, h1, h2⟩ | ⟨_, b, h1, h2⟩
  · rw [ho] at h1; exact ⟨_, h1, h2⟩
  · rw [ho] at h1; exact ⟨_, h1, by have := h2.take os.length; rwa [List.take_left] at this⟩
theorem r_open_no (h : OMem w0 w os) {v : Value} {l : List ByteArray} (hv : TextsAt w v l) (hn : l.length ≤ 100000) {r : Int} (ho : opened l = (r, none)) : Calls Try.prog 11 #[v] w fun e w' => e = .returned (.tuple #[.pointer none, .int .i64 r]) ∧ OMem w0 w' os := by
  refine (r_open h v l hv hn).mono fun e w' hp => ?_
  rcases hp with ⟨_, h1, h2⟩ | ⟨h1, _⟩
  · rw [ho] at h1; exact ⟨h1, h2⟩
  · rw [ho] at h1; cases h1
theorem r_open_yes (h : OMem w0 w os) {v : Value} {l : List ByteArray} (hv : TextsAt w v l) (hn : l.length ≤ 100000) (ho : opened l = (0, some l)) : Calls Try.prog 11 #[v] w fun e w' => ∃ b, e = .returned (.tuple #[.pointer (some ⟨b, 0, none⟩), .int .i64 0]) ∧ OMem w0 w' (os ++ [.ref b l]) := by
  refine (r_open h v l hv hn).mono fun e w' hp => ?_
  rcases hp with ⟨h1, _⟩ | ⟨_, b, h1, h2⟩
  · rw [ho] at h1; cases h1
  · rw [ho] at h1; exact ⟨b, h1, h2⟩
theorem r_of_eq (h : OMem w0 w os) (hi : os[i]? = some (.ref b T)) {s : ByteArray} {r : Int} {T' : List ByteArray} (ho : of T s = (r, T')) (hn : T.length ≤ 100000) :
    Calls Try.prog 15 #[.pointer (some ⟨b, 0, none⟩), .string s] w fun e w' => e = .returned (.int .i64 r) ∧ OMem w0 w' (os.set i (.ref b T')) := by
  have := r_of h hi s hn
  unfold RPost at this
  rw [ho] at this
  exact this
theorem r_text_eq (h : OMem w0 w os) (hi : os[i]? = some (.ref b T)) {n : Int} {s : ByteArray} {x : Bool} (ho : text T n = (s, x)) :
    Calls Try.prog 17 #[.pointer (some ⟨b, 0, none⟩), .int .i64 n] w fun e w' => e = .returned (.tuple #[.string s, .bool x]) ∧ w = w' := by
  have := r_text h hi n
  rw [ho] at this
  exact this
end

set_option maxHeartbeats 8000000 in
set_option maxRecDepth 100000 in
theorem tells_walk {w : World} {v u : Value} {f l : List ByteArray} (hv : TextsAt w v f) (hu : TextsAt w u l) (n name : Int) (hname : I64 name) : Calls Try.prog 3 #[v, u, .int .i64 n, .int .i64 name] w fun e w' => e = .returned (.bool true) ∧ Below w.heap.size w w' := by
  obtain ⟨a, cap, rfl, -⟩ := hv.form
  obtain ⟨a', cap', rfl, -⟩ := hu.form
  have HFA := Lib.hid hv
  have HL := Lib.hid hu
  clear hv hu
  go_enter Try.func3, Try.ntmps3
  go_wp2_with (go_at_call 7; refine (small_any _).mono ?_; rintro e w1 ⟨rfl, hb1⟩; refine Hid.out ?_)
  refine Lib.hid ?_
  have M1 := Lib.hid ((OMem.start w).fresh hb1)
  clear hb1
  have HF1 := Lib.hid (few_any _ f 24 (HFA.out.keep M1.out.below) (by decide))
  have HF2 := Lib.hid (few_any _ l 24 (HL.out.keep M1.out.below) (by decide))
  by_cases hf : few f 24 = true
  · have HFW := Lib.hid (show Few f 24 from of_decide_eq_true hf)
    rw [hf] at HF1
    clear hf
    go_wp2_with (go_at_call 8; refine (HF1.out).mono ?_; rintro e w3 ⟨rfl, rfl⟩; refine Hid.out ?_)
    refine Lib.hid ?_
    clear HF1
    by_cases hg : few l 24 = true
    · have HGW := Lib.hid (show Few l 24 from of_decide_eq_true hg)
      rw [hg] at HF2
      clear hg
      go_wp2_with (go_at_call 8; refine (HF2.out).mono ?_; rintro e w3 ⟨rfl, rfl⟩; refine Hid.out ?_)
      refine Lib.hid ?_
      clear HF2
      have hfl : f.length ≤ 24 := HFW.out.1
      have hll : l.length ≤ 24 := HGW.out.1
      obtain ⟨ro, hro⟩ : ∃ r, (opened [long n]).1 = r := ⟨_, rfl⟩
      have HRO := Lib.hid hro
      clear hro
      go_wp2_with (go_at_call 10; refine (long_any _ _).mono ?_; rintro e w2 ⟨rfl, hb2⟩; refine Hid.out ?_)
      refine Lib.hid ?_
      have M2 := Lib.hid (M1.out.fresh hb2)
      clear hb2 M1
      go_wp2_with (go_at_call 9; refine (n_open_any (M2.out.fresh ((Below.refl _ _).alloc (Nat.le_refl _) _)) (texts_cells (l := [long n]) (MapKept.heap_alloc _ _).1 rfl) (by simp) HRO.out).mono ?_; rintro e w3 ⟨p, rfl, m3⟩; refine Hid.out ?_)
      refine Lib.hid ?_
      have M3 := Lib.hid m3
      clear m3 M2
      go_wp2_with (go_at_call 10; refine (long_any _ _).mono ?_; rintro e w4 ⟨rfl, hb4⟩; refine Hid.out ?_)
      refine Lib.hid ?_
      have M4 := Lib.hid (M3.out.fresh hb4)
      clear hb4 M3
      go_wp2_with (go_at_call 11; refine (r_open_any (M4.out.fresh ((Below.refl _ _).alloc (Nat.le_refl _) _)) (texts_cells (l := [long n]) (MapKept.heap_alloc _ _).1 rfl) (by simp) HRO.out).mono ?_; rintro e w5 ⟨q, rfl, m5⟩; refine Hid.out ?_)
      refine Lib.hid ?_
      have M5 := Lib.hid m5
      clear m5 M4
      by_cases hd : f.Nodup
      · have HOK := Lib.hid (opened_ok HFW.out.text hd)
        clear hd
        go_wp2_with (go_at_call 9; refine (n_open_yes M5.out (HFA.out.keep M5.out.below) (by omega) HOK.out).mono ?_; rintro e w6 ⟨ba, rfl, m6⟩; refine Hid.out ?_)
        refine Lib.hid ?_
        have M6 := Lib.hid (show OMem w w6 [.names ba f] from m6)
        clear m6 M5
        go_wp2_with (go_at_call 11; refine (r_open_yes M6.out (HFA.out.keep M6.out.below) (by omega) HOK.out).mono ?_; rintro e w7 ⟨bb, rfl, m7⟩; refine Hid.out ?_)
        refine Lib.hid ?_
        have MS := Lib.hid (show OMem w w7 [.names ba f, .ref bb f] from m7)
        clear m7 M6
        have hT0 : (f).length ≤ 24 := hfl
        have HT0 := Lib.hid (show AllText (f) from HFW.out.text)
        obtain ⟨z1, T1, hz1⟩ : ∃ z T', of (f) (long n) = (z, T') := ⟨_, _, rfl⟩
        have hT1 : T1.length ≤ 25 := by have := of_len (f) (long n); rw [hz1] at this; simp at this ⊢; omega
        have HT1 := Lib.hid (show AllText T1 by have := of_text HT0.out (long n); rw [hz1] at this; exact this)
        have HZ1 := Lib.hid hz1
        clear hz1
        go_wp2_with (go_at_call 10; refine (long_any _ _).mono ?_; rintro e w10 ⟨rfl, hb10⟩; refine Hid.out ?_)
        refine Lib.hid ?_
        have M10 := Lib.hid (MS.out.fresh hb10)
        clear hb10 MS
        go_wp2_with (go_at_call 14; refine (n_of_eq M10.out (i := 0) rfl HZ1.out (by omega)).mono ?_; rintro e w11 ⟨rfl, m11⟩; refine Hid.out ?_)
        refine Lib.hid ?_
        have M11 := Lib.hid (show OMem w w11 [.names ba T1, .ref bb (f)] from m11)
        clear m11 M10
        go_wp2_with (go_at_call 10; refine (long_any _ _).mono ?_; rintro e w12 ⟨rfl, hb12⟩; refine Hid.out ?_)
        refine Lib.hid ?_
        have M12 := Lib.hid (M11.out.fresh hb12)
        clear hb12 M11
        go_wp2_with (go_at_call 15; refine (r_of_eq M12.out (i := 1) rfl HZ1.out (by omega)).mono ?_; rintro e w13 ⟨rfl, m13⟩; refine Hid.out ?_)
        refine Lib.hid ?_
        have M13 := Lib.hid (show OMem w w13 [.names ba T1, .ref bb T1] from m13)
        clear m13 M12
        go_wp2
        go_loopw [18] (fun i wr => ∃ k : Nat, k ≤ l.length ∧ i = .int .i64 k ∧ OMem w wr [.names ba (ofs T1 (l.take k)), .ref bb (ofs T1 (l.take k))]) (fun i _ => l.length - (intOf i).toNat)
        case atStart => exact ⟨0, Nat.zero_le _, rfl, M13.out⟩
        case round =>
          obtain ⟨k, hk, rfl, hm⟩ := hrel
          have M := Lib.hid hm
          clear hm M13
          by_cases hlt : k < l.length
          · have hl1 : (ofs T1 (l.take k)).length ≤ T1.length + k := by have := ofs_len T1 (l.take k); simp at this; omega
            obtain ⟨tx, tb, htx⟩ : ∃ s x, text (ofs T1 (l.take k)) name = (s, x) := ⟨_, _, rfl⟩
            obtain ⟨z, hz⟩ : ∃ z, of (ofs T1 (l.take k)) l[k] = (z, ofs T1 (l.take (k + 1))) := ⟨_, Prod.ext rfl (ofs_take _ _ k hlt).symm⟩
            have HTX := Lib.hid htx
            have HZ := Lib.hid hz
            obtain ⟨_, _, h1, hac⟩ := (HL.out.keep M.out.below).form
            simp only [Value.slice.injEq] at h1
            obtain ⟨h1, -, -⟩ := h1
            subst h1
            obtain ⟨lb, lo, h1, hck⟩ := hac k hlt
            subst h1
            clear hac htx hz hck
            go_wp2_with (go_at_call 16; refine (n_text_b M.out (i := 0) rfl HTX.out hname (ofs_text HT1.out _)).mono ?_; rintro e w14 ⟨rfl, hb14⟩; refine Hid.out ?_)
            refine Lib.hid ?_
            have M14 := Lib.hid (M.out.fresh hb14)
            clear hb14 M
            go_wp2_with (go_at_call 17; refine (r_text_eq M14.out (i := 1) rfl HTX.out).mono ?_; rintro e w15 ⟨rfl, rfl⟩; refine Hid.out ?_)
            refine Lib.hid ?_
            have SS := Lib.hid (fun w5 (m5 : Below w.heap.size w w5) => RowAt.at_ (HL.out.keep m5) (arg_at hlt))
            have S0 : w14.drew.cell? ⟨lb, lo + k, none⟩ = some (.string l[k]) := SS.out _ M14.out.drew.below
            have HO1 := Lib.hid (n_of_eq M14.out.drew (i := 0) rfl HZ.out (by omega))
            go_wp2
            refine region_till 11 (fun w' => w'.cell? ⟨lb, lo + k, none⟩ = some (.string l[k])) (by kernel_rfl) ?_
            refine till_take 0 8 false (v := ?v0a) (by kernel_rfl) (by kernel_rfl) (by kernel_rfl) (by kernel_rfl) (by kernel_rfl) (fun _ _ _ h => h) ?hw0a S0 ?hy0a ?rest0a
            case hw0a => (simp only [List.getElem?_toArray, List.getElem?_cons_zero, Option.elim]; rfl)
            case hy0a => (simp only [List.getElem?_toArray, List.getElem?_cons_zero, Option.elim]; intro wx _; go_simp; with_reducible rfl)
            simp only [dstOf, List.getElem?_toArray, List.getElem?_cons_zero, Option.bind, Act.put, List.setIfInBounds_toArray, List.set_cons_zero, List.set_cons_succ]
            refine till_take 1 8 false (v := ?v1a) (by kernel_rfl) (by kernel_rfl) (by kernel_rfl) (by kernel_rfl) (by kernel_rfl) (fun _ _ _ h => h) ?hw1a S0 ?hy1a ?rest1a
            case hw1a => (simp only [List.getElem?_toArray, List.getElem?_cons_zero, List.getElem?_cons_succ, Option.elim]; rfl)
            case hy1a => (simp only [List.getElem?_toArray, List.getElem?_cons_zero, List.getElem?_cons_succ, Option.elim]; intro wx _; go_simp; with_reducible rfl)
            simp only [dstOf, List.getElem?_toArray, List.getElem?_cons_zero, List.getElem?_cons_succ, Option.bind, Act.put, List.setIfInBounds_toArray, List.set_cons_zero, List.set_cons_succ]
            refine till_take 2 8 false (v := ?v2a) (by kernel_rfl) (by kernel_rfl) (by kernel_rfl) (by kernel_rfl) (by kernel_rfl) (fun _ _ _ h => h) ?hw2a S0 ?hy2a ?rest2a
            case hw2a => (simp only [List.getElem?_toArray, List.getElem?_cons_zero, List.getElem?_cons_succ, Option.elim]; rfl)
            case hy2a => (simp only [List.getElem?_toArray, List.getElem?_cons_zero, List.getElem?_cons_succ, Option.elim]; intro wx _; go_simp; with_reducible rfl)
            simp only [dstOf, List.getElem?_toArray, List.getElem?_cons_zero, List.getElem?_cons_succ, Option.bind, Act.put, List.setIfInBounds_toArray, List.set_cons_zero, List.set_cons_succ]
            refine till_take 3 8 false (v := ?v3a) (by kernel_rfl) (by kernel_rfl) (by kernel_rfl) (by kernel_rfl) (by kernel_rfl) (fun _ _ _ h => h) ?hw3a S0 ?hy3a ?rest3a
            case hw3a => (simp only [List.getElem?_toArray, List.getElem?_cons_zero, List.getElem?_cons_succ, Option.elim]; rfl)
            case hy3a => (simp only [List.getElem?_toArray, List.getElem?_cons_zero, List.getElem?_cons_succ, Option.elim]; intro wx _; go_simp; with_reducible rfl)
            simp only [dstOf, List.getElem?_toArray, List.getElem?_cons_zero, List.getElem?_cons_succ, Option.bind, Act.put, List.setIfInBounds_toArray, List.set_cons_zero, List.set_cons_succ]
            refine till_take 4 8 true (v := ?v4a) (by kernel_rfl) (by kernel_rfl) (by kernel_rfl) (by kernel_rfl) (by kernel_rfl) (fun _ _ _ h => h) ?hw4a S0 ?hy4a ?rest4a
            case hw4a => (simp only [List.getElem?_toArray, List.getElem?_cons_zero, List.getElem?_cons_succ, Option.elim]; rfl)
            case hy4a => (simp only [List.getElem?_toArray, List.getElem?_cons_zero, List.getElem?_cons_succ, Option.elim]; intro wx hx; have x0 := hx trivial; go_simp; with_reducible rfl)
            simp only [dstOf, List.getElem?_toArray, List.getElem?_cons_zero, List.getElem?_cons_succ, Option.bind, Act.put, List.setIfInBounds_toArray, List.set_cons_zero, List.set_cons_succ]
            refine till_take 6 8 false (v := ?v6a) (by kernel_rfl) (by kernel_rfl) (by kernel_rfl) (by kernel_rfl) (by kernel_rfl) (fun _ _ _ h => h) ?hw6a S0 ?hy6a ?rest6a
            case hw6a => (simp only [List.getElem?_toArray, List.getElem?_cons_zero, List.getElem?_cons_succ, Option.elim]; rfl)
            case hy6a => (simp only [List.getElem?_toArray, List.getElem?_cons_zero, List.getElem?_cons_succ, Option.elim]; intro wx _; go_simp; with_reducible rfl)
            simp only [dstOf, List.getElem?_toArray, List.getElem?_cons_zero, List.getElem?_cons_succ, Option.bind, Act.put, List.setIfInBounds_toArray, List.set_cons_zero, List.set_cons_succ]
            refine till_take 7 8 false (v := ?v7a) (by kernel_rfl) (by kernel_rfl) (by kernel_rfl) (by kernel_rfl) (by kernel_rfl) (fun _ _ _ h => h) ?hw7a S0 ?hy7a ?rest7a
            case hw7a => (simp only [List.getElem?_toArray, List.getElem?_cons_zero, List.getElem?_cons_succ, Option.elim]; rfl)
            case hy7a => (simp only [List.getElem?_toArray, List.getElem?_cons_zero, List.getElem?_cons_succ, Option.elim]; intro wx _; go_simp; with_reducible rfl)
            simp only [dstOf, List.getElem?_toArray, List.getElem?_cons_zero, List.getElem?_cons_succ, Option.bind, Act.put, List.setIfInBounds_toArray, List.set_cons_zero, List.set_cons_succ]
            refine till_take 8 8 false (v := ?v8a) (by kernel_rfl) (by kernel_rfl) (by kernel_rfl) (by kernel_rfl) (by kernel_rfl) (fun _ _ _ h => h) ?hw8a S0 ?hy8a ?rest8a
            case hw8a => (simp only [List.getElem?_toArray, List.getElem?_cons_zero, List.getElem?_cons_succ, Option.elim]; rfl)
            case hy8a => (simp only [List.getElem?_toArray, List.getElem?_cons_zero, List.getElem?_cons_succ, Option.elim]; intro wx _; go_simp; with_reducible rfl)
            simp only [dstOf, List.getElem?_toArray, List.getElem?_cons_zero, List.getElem?_cons_succ, Option.bind, Act.put, List.setIfInBounds_toArray, List.set_cons_zero, List.set_cons_succ]
            refine till_take 9 8 false (v := ?v9a) (by kernel_rfl) (by kernel_rfl) (by kernel_rfl) (by kernel_rfl) (by kernel_rfl) (fun _ _ _ h => h) ?hw9a S0 ?hy9a ?rest9a
            case hw9a => (simp only [List.getElem?_toArray, List.getElem?_cons_zero, List.getElem?_cons_succ, Option.elim]; rfl)
            case hy9a => (simp only [List.getElem?_toArray, List.getElem?_cons_zero, List.getElem?_cons_succ, Option.elim]; intro wx _; go_simp; with_reducible rfl)
            simp only [dstOf, List.getElem?_toArray, List.getElem?_cons_zero, List.getElem?_cons_succ, Option.bind, Act.put, List.setIfInBounds_toArray, List.set_cons_zero, List.set_cons_succ]
            refine till_take 10 8 true (v := ?v10a) (by kernel_rfl) (by kernel_rfl) (by kernel_rfl) (by kernel_rfl) (by kernel_rfl) (fun _ _ _ h => h) ?hw10a S0 ?hy10a ?rest10a
            case hw10a => (simp only [List.getElem?_toArray, List.getElem?_cons_zero, List.getElem?_cons_succ, Option.elim]; rfl)
            case hy10a => (simp only [List.getElem?_toArray, List.getElem?_cons_zero, List.getElem?_cons_succ, Option.elim]; intro wx hx; have x0 := hx trivial; go_simp; with_reducible rfl)
            simp only [dstOf, List.getElem?_toArray, List.getElem?_cons_zero, List.getElem?_cons_succ, Option.bind, Act.put, List.setIfInBounds_toArray, List.set_cons_zero, List.set_cons_succ]
            refine till_before 5 (by kernel_rfl) (fun K hK => ?_)
            simp only [List.getElem?_toArray, List.getElem?_cons_zero, List.getElem?_cons_succ, Option.elim]
            rw [if_pos (by rfl)]
            go_simp
            go_at_call 14
            refine (HO1.out).mono ?_
            rintro e w16 ⟨rfl, m16⟩
            refine hK.out _ _ (SS.out _ m16.below) ?_
            clear hK K
            try simp only [Act.put, List.setIfInBounds_toArray, List.set_cons_zero, List.set_cons_succ]
            have M16 := Lib.hid (show OMem w w16 [.names ba (ofs T1 (l.take (k + 1))), .ref bb (ofs T1 (l.take k))] from m16)
            have HO2 := Lib.hid (r_of_eq M16.out (i := 1) rfl HZ.out (by omega))
            clear m16 HO1 S0
            refine till_step 11 (by kernel_rfl) (by kernel_rfl) (fun K hK => ?_)
            simp only [List.getElem?_toArray, List.getElem?_cons_zero, List.getElem?_cons_succ, Option.elim]
            rw [if_pos (by rfl)]
            go_simp
            go_at_call 15
            refine (HO2.out).mono ?_
            rintro e w17 ⟨rfl, m17⟩
            refine hK.out _ _ ?_
            clear hK K
            try simp only [Act.put, List.setIfInBounds_toArray, List.set_cons_zero, List.set_cons_succ]
            have M17 := Lib.hid (show OMem w w17 [.names ba (ofs T1 (l.take (k + 1))), .ref bb (ofs T1 (l.take (k + 1)))] from m17)
            have HN1 := Lib.hid (n_len M17.out (i := 0) rfl)
            have HN2 := Lib.hid (r_len M17.out (i := 1) rfl)
            clear m17 HO2
            refine till_late 12 (v := ?v12a) (by kernel_rfl) (by kernel_rfl) (by kernel_rfl) (by kernel_rfl) (fun _ _ _ h => h) (by kernel_rfl) ?hw12a ?hy12a ?rest12a
            case hw12a => (simp only [List.getElem?_toArray, List.getElem?_cons_zero, List.getElem?_cons_succ, Option.elim]; rfl)
            case hy12a => (simp only [List.getElem?_toArray, List.getElem?_cons_zero, List.getElem?_cons_succ, Option.elim]; intro wx; go_simp; with_reducible rfl)
            simp only [dstOf, List.getElem?_toArray, List.getElem?_cons_zero, List.getElem?_cons_succ, Option.bind, Act.put, List.setIfInBounds_toArray, List.set_cons_zero, List.set_cons_succ]
            refine till_late 13 (v := ?v13a) (by kernel_rfl) (by kernel_rfl) (by kernel_rfl) (by kernel_rfl) (fun _ _ _ h => h) (by kernel_rfl) ?hw13a ?hy13a ?rest13a
            case hw13a => (simp only [List.getElem?_toArray, List.getElem?_cons_zero, List.getElem?_cons_succ, Option.elim]; rfl)
            case hy13a => (simp only [List.getElem?_toArray, List.getElem?_cons_zero, List.getElem?_cons_succ, Option.elim]; intro wx; go_simp; with_reducible rfl)
            simp only [dstOf, List.getElem?_toArray, List.getElem?_cons_zero, List.getElem?_cons_succ, Option.bind, Act.put, List.setIfInBounds_toArray, List.set_cons_zero, List.set_cons_succ]
            refine till_late 14 (v := ?v14a) (by kernel_rfl) (by kernel_rfl) (by kernel_rfl) (by kernel_rfl) (fun _ _ _ h => h) (by kernel_rfl) ?hw14a ?hy14a ?rest14a
            case hw14a => (simp only [List.getElem?_toArray, List.getElem?_cons_zero, List.getElem?_cons_succ, Option.elim]; rfl)
            case hy14a => (simp only [List.getElem?_toArray, List.getElem?_cons_zero, List.getElem?_cons_succ, Option.elim]; intro wx; go_simp; with_reducible rfl)
            simp only [dstOf, List.getElem?_toArray, List.getElem?_cons_zero, List.getElem?_cons_succ, Option.bind, Act.put, List.setIfInBounds_toArray, List.set_cons_zero, List.set_cons_succ]
            refine till_late 16 (v := ?v16a) (by kernel_rfl) (by kernel_rfl) (by kernel_rfl) (by kernel_rfl) (fun _ _ _ h => h) (by kernel_rfl) ?hw16a ?hy16a ?rest16a
            case hw16a => (simp only [List.getElem?_toArray, List.getElem?_cons_zero, List.getElem?_cons_succ, Option.elim]; rfl)
            case hy16a => (simp only [List.getElem?_toArray, List.getElem?_cons_zero, List.getElem?_cons_succ, Option.elim]; intro wx; go_simp; with_reducible rfl)
            simp only [dstOf, List.getElem?_toArray, List.getElem?_cons_zero, List.getElem?_cons_succ, Option.bind, Act.put, List.setIfInBounds_toArray, List.set_cons_zero, List.set_cons_succ]
            refine till_step 15 (by kernel_rfl) (by kernel_rfl) (fun K hK => ?_)
            simp only [List.getElem?_toArray, List.getElem?_cons_zero, List.getElem?_cons_succ, Option.elim]
            rw [if_pos (by rfl)]
            go_simp
            go_at_call 18
            refine (HN1.out).mono ?_
            rintro e w18 ⟨rfl, rfl⟩
            refine hK.out _ _ ?_
            clear hK K
            try simp only [Act.put, List.setIfInBounds_toArray, List.set_cons_zero, List.set_cons_succ]
            refine till_step 17 (by kernel_rfl) (by kernel_rfl) (fun K hK => ?_)
            simp only [List.getElem?_toArray, List.getElem?_cons_zero, List.getElem?_cons_succ, Option.elim]
            rw [if_pos (by rfl)]
            go_simp
            go_at_call 19
            refine (HN2.out).mono ?_
            rintro e w18 ⟨rfl, rfl⟩
            refine hK.out _ _ ?_
            clear hK K
            try simp only [Act.put, List.setIfInBounds_toArray, List.set_cons_zero, List.set_cons_succ]
            refine till_late 18 (v := ?v18a) (by kernel_rfl) (by kernel_rfl) (by kernel_rfl) (by kernel_rfl) (fun _ _ _ h => h) (by kernel_rfl) ?hw18a ?hy18a ?rest18a
            case hw18a => (simp only [List.getElem?_toArray, List.getElem?_cons_zero, List.getElem?_cons_succ, Option.elim]; rfl)
            case hy18a => (simp only [List.getElem?_toArray, List.getElem?_cons_zero, List.getElem?_cons_succ, Option.elim]; intro wx; go_simp; with_reducible rfl)
            simp only [dstOf, List.getElem?_toArray, List.getElem?_cons_zero, List.getElem?_cons_succ, Option.bind, Act.put, List.setIfInBounds_toArray, List.set_cons_zero, List.set_cons_succ]
            refine till_late 19 (v := ?v19a) (by kernel_rfl) (by kernel_rfl) (by kernel_rfl) (by kernel_rfl) (fun _ _ _ h => h) (by kernel_rfl) ?hw19a ?hy19a ?rest19a
            case hw19a => (simp only [List.getElem?_toArray, List.getElem?_cons_zero, List.getElem?_cons_succ, Option.elim]; rfl)
            case hy19a => (simp only [List.getElem?_toArray, List.getElem?_cons_zero, List.getElem?_cons_succ, Option.elim]; intro wx; go_simp; with_reducible rfl)
            simp only [dstOf, List.getElem?_toArray, List.getElem?_cons_zero, List.getElem?_cons_succ, Option.bind, Act.put, List.setIfInBounds_toArray, List.set_cons_zero, List.set_cons_succ]
            refine till_late 20 (v := ?v20a) (by kernel_rfl) (by kernel_rfl) (by kernel_rfl) (by kernel_rfl) (fun _ _ _ h => h) (by kernel_rfl) ?hw20a ?hy20a ?rest20a
            case hw20a => (simp only [List.getElem?_toArray, List.getElem?_cons_zero, List.getElem?_cons_succ, Option.elim]; rfl)
            case hy20a => (simp only [List.getElem?_toArray, List.getElem?_cons_zero, List.getElem?_cons_succ, Option.elim]; intro wx; go_simp; with_reducible rfl)
            simp only [dstOf, List.getElem?_toArray, List.getElem?_cons_zero, List.getElem?_cons_succ, Option.bind, Act.put, List.setIfInBounds_toArray, List.set_cons_zero, List.set_cons_succ]
            refine till_late 21 (v := ?v21a) (by kernel_rfl) (by kernel_rfl) (by kernel_rfl) (by kernel_rfl) (fun _ _ _ h => h) (by kernel_rfl) ?hw21a ?hy21a ?rest21a
            case hw21a => (simp only [List.getElem?_toArray, List.getElem?_cons_zero, List.getElem?_cons_succ, Option.elim]; rfl)
            case hy21a => (simp only [List.getElem?_toArray, List.getElem?_cons_zero, List.getElem?_cons_succ, Option.elim]; intro wx; go_simp; with_reducible rfl)
            simp only [dstOf, List.getElem?_toArray, List.getElem?_cons_zero, List.getElem?_cons_succ, Option.bind, Act.put, List.setIfInBounds_toArray, List.set_cons_zero, List.set_cons_succ]
            refine till_late 22 (v := ?v22a) (by kernel_rfl) (by kernel_rfl) (by kernel_rfl) (by kernel_rfl) (fun _ _ _ h => h) (by kernel_rfl) ?hw22a ?hy22a ?rest22a
            case hw22a => (simp only [List.getElem?_toArray, List.getElem?_cons_zero, List.getElem?_cons_succ, Option.elim]; rfl)
            case hy22a => (simp only [List.getElem?_toArray, List.getElem?_cons_zero, List.getElem?_cons_succ, Option.elim]; intro wx; go_simp; with_reducible rfl)
            simp only [dstOf, List.getElem?_toArray, List.getElem?_cons_zero, List.getElem?_cons_succ, Option.bind, Act.put, List.setIfInBounds_toArray, List.set_cons_zero, List.set_cons_succ]
            refine till_late 23 (v := ?v23a) (by kernel_rfl) (by kernel_rfl) (by kernel_rfl) (by kernel_rfl) (fun _ _ _ h => h) (by kernel_rfl) ?hw23a ?hy23a ?rest23a
            case hw23a => (simp only [List.getElem?_toArray, List.getElem?_cons_zero, List.getElem?_cons_succ, Option.elim]; rfl)
            case hy23a => (simp only [List.getElem?_toArray, List.getElem?_cons_zero, List.getElem?_cons_succ, Option.elim]; intro wx; go_simp; with_reducible rfl)
            simp only [dstOf, List.getElem?_toArray, List.getElem?_cons_zero, List.getElem?_cons_succ, Option.bind, Act.put, List.setIfInBounds_toArray, List.set_cons_zero, List.set_cons_succ]
            refine till_late 24 (v := ?v24a) (by kernel_rfl) (by kernel_rfl) (by kernel_rfl) (by kernel_rfl) (fun _ _ _ h => h) (by kernel_rfl) ?hw24a ?hy24a ?rest24a
            case hw24a => (simp only [List.getElem?_toArray, List.getElem?_cons_zero, List.getElem?_cons_succ, Option.elim]; rfl)
            case hy24a => (simp only [List.getElem?_toArray, List.getElem?_cons_zero, List.getElem?_cons_succ, Option.elim]; intro wx; go_simp; with_reducible rfl)
            simp only [dstOf, List.getElem?_toArray, List.getElem?_cons_zero, List.getElem?_cons_succ, Option.bind, Act.put, List.setIfInBounds_toArray, List.set_cons_zero, List.set_cons_succ]
            refine till_late 25 (v := ?v25a) (by kernel_rfl) (by kernel_rfl) (by kernel_rfl) (by kernel_rfl) (fun _ _ _ h => h) (by kernel_rfl) ?hw25a ?hy25a ?rest25a
            case hw25a => (simp only [List.getElem?_toArray, List.getElem?_cons_zero, List.getElem?_cons_succ, Option.elim]; rfl)
            case hy25a => (simp only [List.getElem?_toArray, List.getElem?_cons_zero, List.getElem?_cons_succ, Option.elim]; intro wx; go_simp; with_reducible rfl)
            simp only [dstOf, List.getElem?_toArray, List.getElem?_cons_zero, List.getElem?_cons_succ, Option.bind, Act.put, List.setIfInBounds_toArray, List.set_cons_zero, List.set_cons_succ]
            refine till_late 26 (v := ?v26a) (by kernel_rfl) (by kernel_rfl) (by kernel_rfl) (by kernel_rfl) (fun _ _ _ h => h) (by kernel_rfl) ?hw26a ?hy26a ?rest26a
            case hw26a => (simp only [List.getElem?_toArray, List.getElem?_cons_zero, List.getElem?_cons_succ, Option.elim]; rfl)
            case hy26a => (simp only [List.getElem?_toArray, List.getElem?_cons_zero, List.getElem?_cons_succ, Option.elim]; intro wx; go_simp; with_reducible rfl)
            simp only [dstOf, List.getElem?_toArray, List.getElem?_cons_zero, List.getElem?_cons_succ, Option.bind, Act.put, List.setIfInBounds_toArray, List.set_cons_zero, List.set_cons_succ]
            refine till_late 27 (v := ?v27a) (by kernel_rfl) (by kernel_rfl) (by kernel_rfl) (by kernel_rfl) (fun _ _ _ h => h) (by kernel_rfl) ?hw27a ?hy27a ?rest27a
            case hw27a => (simp only [List.getElem?_toArray, List.getElem?_cons_zero, List.getElem?_cons_succ, Option.elim]; rfl)
            case hy27a => (simp only [List.getElem?_toArray, List.getElem?_cons_zero, List.getElem?_cons_succ, Option.elim]; intro wx; go_simp; with_reducible rfl)
            simp only [dstOf, List.getElem?_toArray, List.getElem?_cons_zero, List.getElem?_cons_succ, Option.bind, Act.put, List.setIfInBounds_toArray, List.set_cons_zero, List.set_cons_succ]
            refine till_late 28 (v := ?v28a) (by kernel_rfl) (by kernel_rfl) (by kernel_rfl) (by kernel_rfl) (fun _ _ _ h => h) (by kernel_rfl) ?hw28a ?hy28a ?rest28a
            case hw28a => (simp only [List.getElem?_toArray, List.getElem?_cons_zero, List.getElem?_cons_succ, Option.elim]; rfl)
            case hy28a => (simp only [List.getElem?_toArray, List.getElem?_cons_zero, List.getElem?_cons_succ, Option.elim]; intro wx; go_simp; with_reducible rfl)
            simp only [dstOf, List.getElem?_toArray, List.getElem?_cons_zero, List.getElem?_cons_succ, Option.bind, Act.put, List.setIfInBounds_toArray, List.set_cons_zero, List.set_cons_succ]
            refine till_late 29 (v := ?v29a) (by kernel_rfl) (by kernel_rfl) (by kernel_rfl) (by kernel_rfl) (fun _ _ _ h => h) (by kernel_rfl) ?hw29a ?hy29a ?rest29a
            case hw29a => (simp only [List.getElem?_toArray, List.getElem?_cons_zero, List.getElem?_cons_succ, Option.elim]; rfl)
            case hy29a => (simp only [List.getElem?_toArray, List.getElem?_cons_zero, List.getElem?_cons_succ, Option.elim]; intro wx; go_simp; with_reducible rfl)
            simp only [dstOf, List.getElem?_toArray, List.getElem?_cons_zero, List.getElem?_cons_succ, Option.bind, Act.put, List.setIfInBounds_toArray, List.set_cons_zero, List.set_cons_succ]
            refine till_end (by kernel_rfl) ?_ _
            go_wp2
            go_roundw
            case rel => exact ⟨k + 1, by omega, by go_num, M17.out⟩
            case measure => simp [intOf]; omega
          · obtain rfl : k = l.length := by omega
            have hm := M.out
            rw [List.take_length] at hm
            have MA := Lib.hid hm
            clear hm M
            have hl1 : (ofs T1 l).length ≤ T1.length + l.length := ofs_len T1 l
            have HTA := Lib.hid (ofs_text HT1.out l)
            obtain ⟨tx, tb, htx⟩ : ∃ s x, text (ofs T1 l) name = (s, x) := ⟨_, _, rfl⟩
            have HTX := Lib.hid htx
            clear htx
            go_wp2_with (go_at_call 16; refine (n_text_b MA.out (i := 0) rfl HTX.out hname HTA.out).mono ?_; rintro e w14 ⟨rfl, hb14⟩; refine Hid.out ?_)
            refine Lib.hid ?_
            have M14 := Lib.hid (MA.out.fresh hb14)
            clear hb14 MA
            go_wp2_with (go_at_call 17; refine (r_text_eq M14.out (i := 1) rfl HTX.out).mono ?_; rintro e w15 ⟨rfl, rfl⟩; refine Hid.out ?_)
            refine Lib.hid ?_
            go_wp2_with (go_at_call 21; refine (n_all M14.out (i := 0) rfl HTA.out (by omega)).mono ?_; rintro e w16 ⟨va, rfl, m16⟩; refine Hid.out ?_)
            refine Lib.hid ?_
            have M16 := Lib.hid (show OMem w w16 [.names ba (ofs T1 l), .ref bb (ofs T1 l), .own 9 va (strVs (ofs T1 l))] from m16)
            clear m16 M14
            go_wp2_with (go_at_call 22; refine (r_all M16.out (i := 1) rfl (by omega)).mono ?_; rintro e w17 ⟨vb, rfl, m17⟩; refine Hid.out ?_)
            refine Lib.hid ?_
            have M17 := Lib.hid (show OMem w w17 [.names ba (ofs T1 l), .ref bb (ofs T1 l), .own 9 va (strVs (ofs T1 l)), .own 9 vb (strVs (ofs T1 l))] from m17)
            clear m17 M16
            have HS := strings_any va vb _ _ (M17.out.texts (i := 2) rfl) (M17.out.texts (i := 3) rfl) (by omega)
            rw [decide_eq_true rfl] at HS
            have HS := Lib.hid HS
            go_wp2_with (go_at_call 20; refine (HS.out).mono ?_; rintro e w18 ⟨rfl, hb18⟩; refine Hid.out ?_)
            refine Lib.hid ?_
            have M18 := Lib.hid (M17.out.fresh hb18)
            clear hb18 M17 HS
            go_wp2
            go_ret
            exact ⟨rfl, M18.out.below⟩
      · have HNO := Lib.hid (opened_twice HFW.out.text hd)
        clear hd
        go_wp2_with (go_at_call 9; refine (n_open_no M5.out (HFA.out.keep M5.out.below) (by omega) HNO.out).mono ?_; rintro e w6 ⟨rfl, m6⟩; refine Hid.out ?_)
        refine Lib.hid ?_
        have M6 := Lib.hid m6
        clear m6 M5
        go_wp2_with (go_at_call 11; refine (r_open_no M6.out (HFA.out.keep M6.out.below) (by omega) HNO.out).mono ?_; rintro e w7 ⟨rfl, m7⟩; refine Hid.out ?_)
        refine Lib.hid ?_
        have M7 := Lib.hid m7
        clear m7 M6
        go_wp2_with (go_at_call 12; refine (n_new M7.out).mono ?_; rintro e w8 ⟨ba, rfl, m8⟩; refine Hid.out ?_)
        refine Lib.hid ?_
        have M8 := Lib.hid (show OMem w w8 [.names ba []] from m8)
        clear m8 M7
        go_wp2_with (go_at_call 13; refine (r_new M8.out).mono ?_; rintro e w9 ⟨bb, rfl, m9⟩; refine Hid.out ?_)
        refine Lib.hid ?_
        have MS := Lib.hid (show OMem w w9 [.names ba [], .ref bb []] from m9)
        clear m9 M8
        have hT0 : (([] : List ByteArray)).length ≤ 24 := (by simp)
        have HT0 := Lib.hid (show AllText (([] : List ByteArray)) from (by intro s hs; cases hs))
        obtain ⟨z1, T1, hz1⟩ : ∃ z T', of (([] : List ByteArray)) (long n) = (z, T') := ⟨_, _, rfl⟩
        have hT1 : T1.length ≤ 25 := by have := of_len (([] : List ByteArray)) (long n); rw [hz1] at this; simp at this ⊢; omega
        have HT1 := Lib.hid (show AllText T1 by have := of_text HT0.out (long n); rw [hz1] at this; exact this)
        have HZ1 := Lib.hid hz1
        clear hz1
        go_wp2_with (go_at_call 10; refine (long_any _ _).mono ?_; rintro e w10 ⟨rfl, hb10⟩; refine Hid.out ?_)
        refine Lib.hid ?_
        have M10 := Lib.hid (MS.out.fresh hb10)
        clear hb10 MS
        go_wp2_with (go_at_call 14; refine (n_of_eq M10.out (i := 0) rfl HZ1.out (by omega)).mono ?_; rintro e w11 ⟨rfl, m11⟩; refine Hid.out ?_)
        refine Lib.hid ?_
        have M11 := Lib.hid (show OMem w w11 [.names ba T1, .ref bb (([] : List ByteArray))] from m11)
        clear m11 M10
        go_wp2_with (go_at_call 10; refine (long_any _ _).mono ?_; rintro e w12 ⟨rfl, hb12⟩; refine Hid.out ?_)
        refine Lib.hid ?_
        have M12 := Lib.hid (M11.out.fresh hb12)
        clear hb12 M11
        go_wp2_with (go_at_call 15; refine (r_of_eq M12.out (i := 1) rfl HZ1.out (by omega)).mono ?_; rintro e w13 ⟨rfl, m13⟩; refine Hid.out ?_)
        refine Lib.hid ?_
        have M13 := Lib.hid (show OMem w w13 [.names ba T1, .ref bb T1] from m13)
        clear m13 M12
        go_wp2
        go_loopw [18] (fun i wr => ∃ k : Nat, k ≤ l.length ∧ i = .int .i64 k ∧ OMem w wr [.names ba (ofs T1 (l.take k)), .ref bb (ofs T1 (l.take k))]) (fun i _ => l.length - (intOf i).toNat)
        case atStart => exact ⟨0, Nat.zero_le _, rfl, M13.out⟩
        case round =>
          obtain ⟨k, hk, rfl, hm⟩ := hrel
          have M := Lib.hid hm
          clear hm M13
          by_cases hlt : k < l.length
          · have hl1 : (ofs T1 (l.take k)).length ≤ T1.length + k := by have := ofs_len T1 (l.take k); simp at this; omega
            obtain ⟨tx, tb, htx⟩ : ∃ s x, text (ofs T1 (l.take k)) name = (s, x) := ⟨_, _, rfl⟩
            obtain ⟨z, hz⟩ : ∃ z, of (ofs T1 (l.take k)) l[k] = (z, ofs T1 (l.take (k + 1))) := ⟨_, Prod.ext rfl (ofs_take _ _ k hlt).symm⟩
            have HTX := Lib.hid htx
            have HZ := Lib.hid hz
            obtain ⟨_, _, h1, hac⟩ := (HL.out.keep M.out.below).form
            simp only [Value.slice.injEq] at h1
            obtain ⟨h1, -, -⟩ := h1
            subst h1
            obtain ⟨lb, lo, h1, hck⟩ := hac k hlt
            subst h1
            clear hac htx hz hck
            go_wp2_with (go_at_call 16; refine (n_text_b M.out (i := 0) rfl HTX.out hname (ofs_text HT1.out _)).mono ?_; rintro e w14 ⟨rfl, hb14⟩; refine Hid.out ?_)
            refine Lib.hid ?_
            have M14 := Lib.hid (M.out.fresh hb14)
            clear hb14 M
            go_wp2_with (go_at_call 17; refine (r_text_eq M14.out (i := 1) rfl HTX.out).mono ?_; rintro e w15 ⟨rfl, rfl⟩; refine Hid.out ?_)
            refine Lib.hid ?_
            have SS := Lib.hid (fun w5 (m5 : Below w.heap.size w w5) => RowAt.at_ (HL.out.keep m5) (arg_at hlt))
            have S0 : w14.drew.cell? ⟨lb, lo + k, none⟩ = some (.string l[k]) := SS.out _ M14.out.drew.below
            have HO1 := Lib.hid (n_of_eq M14.out.drew (i := 0) rfl HZ.out (by omega))
            go_wp2
            refine region_till 11 (fun w' => w'.cell? ⟨lb, lo + k, none⟩ = some (.string l[k])) (by kernel_rfl) ?_
            refine till_take 0 8 false (v := ?v0b) (by kernel_rfl) (by kernel_rfl) (by kernel_rfl) (by kernel_rfl) (by kernel_rfl) (fun _ _ _ h => h) ?hw0b S0 ?hy0b ?rest0b
            case hw0b => (simp only [List.getElem?_toArray, List.getElem?_cons_zero, Option.elim]; rfl)
            case hy0b => (simp only [List.getElem?_toArray, List.getElem?_cons_zero, Option.elim]; intro wx _; go_simp; with_reducible rfl)
            simp only [dstOf, List.getElem?_toArray, List.getElem?_cons_zero, Option.bind, Act.put, List.setIfInBounds_toArray, List.set_cons_zero, List.set_cons_succ]
            refine till_take 1 8 false (v := ?v1b) (by kernel_rfl) (by kernel_rfl) (by kernel_rfl) (by kernel_rfl) (by kernel_rfl) (fun _ _ _ h => h) ?hw1b S0 ?hy1b ?rest1b
            case hw1b => (simp only [List.getElem?_toArray, List.getElem?_cons_zero, List.getElem?_cons_succ, Option.elim]; rfl)
            case hy1b => (simp only [List.getElem?_toArray, List.getElem?_cons_zero, List.getElem?_cons_succ, Option.elim]; intro wx _; go_simp; with_reducible rfl)
            simp only [dstOf, List.getElem?_toArray, List.getElem?_cons_zero, List.getElem?_cons_succ, Option.bind, Act.put, List.setIfInBounds_toArray, List.set_cons_zero, List.set_cons_succ]
            refine till_take 2 8 false (v := ?v2b) (by kernel_rfl) (by kernel_rfl) (by kernel_rfl) (by kernel_rfl) (by kernel_rfl) (fun _ _ _ h => h) ?hw2b S0 ?hy2b ?rest2b
            case hw2b => (simp only [List.getElem?_toArray, List.getElem?_cons_zero, List.getElem?_cons_succ, Option.elim]; rfl)
            case hy2b => (simp only [List.getElem?_toArray, List.getElem?_cons_zero, List.getElem?_cons_succ, Option.elim]; intro wx _; go_simp; with_reducible rfl)
            simp only [dstOf, List.getElem?_toArray, List.getElem?_cons_zero, List.getElem?_cons_succ, Option.bind, Act.put, List.setIfInBounds_toArray, List.set_cons_zero, List.set_cons_succ]
            refine till_take 3 8 false (v := ?v3b) (by kernel_rfl) (by kernel_rfl) (by kernel_rfl) (by kernel_rfl) (by kernel_rfl) (fun _ _ _ h => h) ?hw3b S0 ?hy3b ?rest3b
            case hw3b => (simp only [List.getElem?_toArray, List.getElem?_cons_zero, List.getElem?_cons_succ, Option.elim]; rfl)
            case hy3b => (simp only [List.getElem?_toArray, List.getElem?_cons_zero, List.getElem?_cons_succ, Option.elim]; intro wx _; go_simp; with_reducible rfl)
            simp only [dstOf, List.getElem?_toArray, List.getElem?_cons_zero, List.getElem?_cons_succ, Option.bind, Act.put, List.setIfInBounds_toArray, List.set_cons_zero, List.set_cons_succ]
            refine till_take 4 8 true (v := ?v4b) (by kernel_rfl) (by kernel_rfl) (by kernel_rfl) (by kernel_rfl) (by kernel_rfl) (fun _ _ _ h => h) ?hw4b S0 ?hy4b ?rest4b
            case hw4b => (simp only [List.getElem?_toArray, List.getElem?_cons_zero, List.getElem?_cons_succ, Option.elim]; rfl)
            case hy4b => (simp only [List.getElem?_toArray, List.getElem?_cons_zero, List.getElem?_cons_succ, Option.elim]; intro wx hx; have x0 := hx trivial; go_simp; with_reducible rfl)
            simp only [dstOf, List.getElem?_toArray, List.getElem?_cons_zero, List.getElem?_cons_succ, Option.bind, Act.put, List.setIfInBounds_toArray, List.set_cons_zero, List.set_cons_succ]
            refine till_take 6 8 false (v := ?v6b) (by kernel_rfl) (by kernel_rfl) (by kernel_rfl) (by kernel_rfl) (by kernel_rfl) (fun _ _ _ h => h) ?hw6b S0 ?hy6b ?rest6b
            case hw6b => (simp only [List.getElem?_toArray, List.getElem?_cons_zero, List.getElem?_cons_succ, Option.elim]; rfl)
            case hy6b => (simp only [List.getElem?_toArray, List.getElem?_cons_zero, List.getElem?_cons_succ, Option.elim]; intro wx _; go_simp; with_reducible rfl)
            simp only [dstOf, List.getElem?_toArray, List.getElem?_cons_zero, List.getElem?_cons_succ, Option.bind, Act.put, List.setIfInBounds_toArray, List.set_cons_zero, List.set_cons_succ]
            refine till_take 7 8 false (v := ?v7b) (by kernel_rfl) (by kernel_rfl) (by kernel_rfl) (by kernel_rfl) (by kernel_rfl) (fun _ _ _ h => h) ?hw7b S0 ?hy7b ?rest7b
            case hw7b => (simp only [List.getElem?_toArray, List.getElem?_cons_zero, List.getElem?_cons_succ, Option.elim]; rfl)
            case hy7b => (simp only [List.getElem?_toArray, List.getElem?_cons_zero, List.getElem?_cons_succ, Option.elim]; intro wx _; go_simp; with_reducible rfl)
            simp only [dstOf, List.getElem?_toArray, List.getElem?_cons_zero, List.getElem?_cons_succ, Option.bind, Act.put, List.setIfInBounds_toArray, List.set_cons_zero, List.set_cons_succ]
            refine till_take 8 8 false (v := ?v8b) (by kernel_rfl) (by kernel_rfl) (by kernel_rfl) (by kernel_rfl) (by kernel_rfl) (fun _ _ _ h => h) ?hw8b S0 ?hy8b ?rest8b
            case hw8b => (simp only [List.getElem?_toArray, List.getElem?_cons_zero, List.getElem?_cons_succ, Option.elim]; rfl)
            case hy8b => (simp only [List.getElem?_toArray, List.getElem?_cons_zero, List.getElem?_cons_succ, Option.elim]; intro wx _; go_simp; with_reducible rfl)
            simp only [dstOf, List.getElem?_toArray, List.getElem?_cons_zero, List.getElem?_cons_succ, Option.bind, Act.put, List.setIfInBounds_toArray, List.set_cons_zero, List.set_cons_succ]
            refine till_take 9 8 false (v := ?v9b) (by kernel_rfl) (by kernel_rfl) (by kernel_rfl) (by kernel_rfl) (by kernel_rfl) (fun _ _ _ h => h) ?hw9b S0 ?hy9b ?rest9b
            case hw9b => (simp only [List.getElem?_toArray, List.getElem?_cons_zero, List.getElem?_cons_succ, Option.elim]; rfl)
            case hy9b => (simp only [List.getElem?_toArray, List.getElem?_cons_zero, List.getElem?_cons_succ, Option.elim]; intro wx _; go_simp; with_reducible rfl)
            simp only [dstOf, List.getElem?_toArray, List.getElem?_cons_zero, List.getElem?_cons_succ, Option.bind, Act.put, List.setIfInBounds_toArray, List.set_cons_zero, List.set_cons_succ]
            refine till_take 10 8 true (v := ?v10b) (by kernel_rfl) (by kernel_rfl) (by kernel_rfl) (by kernel_rfl) (by kernel_rfl) (fun _ _ _ h => h) ?hw10b S0 ?hy10b ?rest10b
            case hw10b => (simp only [List.getElem?_toArray, List.getElem?_cons_zero, List.getElem?_cons_succ, Option.elim]; rfl)
            case hy10b => (simp only [List.getElem?_toArray, List.getElem?_cons_zero, List.getElem?_cons_succ, Option.elim]; intro wx hx; have x0 := hx trivial; go_simp; with_reducible rfl)
            simp only [dstOf, List.getElem?_toArray, List.getElem?_cons_zero, List.getElem?_cons_succ, Option.bind, Act.put, List.setIfInBounds_toArray, List.set_cons_zero, List.set_cons_succ]
            refine till_before 5 (by kernel_rfl) (fun K hK => ?_)
            simp only [List.getElem?_toArray, List.getElem?_cons_zero, List.getElem?_cons_succ, Option.elim]
            rw [if_pos (by rfl)]
            go_simp
            go_at_call 14
            refine (HO1.out).mono ?_
            rintro e w16 ⟨rfl, m16⟩
            refine hK.out _ _ (SS.out _ m16.below) ?_
            clear hK K
            try simp only [Act.put, List.setIfInBounds_toArray, List.set_cons_zero, List.set_cons_succ]
            have M16 := Lib.hid (show OMem w w16 [.names ba (ofs T1 (l.take (k + 1))), .ref bb (ofs T1 (l.take k))] from m16)
            have HO2 := Lib.hid (r_of_eq M16.out (i := 1) rfl HZ.out (by omega))
            clear m16 HO1 S0
            refine till_step 11 (by kernel_rfl) (by kernel_rfl) (fun K hK => ?_)
            simp only [List.getElem?_toArray, List.getElem?_cons_zero, List.getElem?_cons_succ, Option.elim]
            rw [if_pos (by rfl)]
            go_simp
            go_at_call 15
            refine (HO2.out).mono ?_
            rintro e w17 ⟨rfl, m17⟩
            refine hK.out _ _ ?_
            clear hK K
            try simp only [Act.put, List.setIfInBounds_toArray, List.set_cons_zero, List.set_cons_succ]
            have M17 := Lib.hid (show OMem w w17 [.names ba (ofs T1 (l.take (k + 1))), .ref bb (ofs T1 (l.take (k + 1)))] from m17)
            have HN1 := Lib.hid (n_len M17.out (i := 0) rfl)
            have HN2 := Lib.hid (r_len M17.out (i := 1) rfl)
            clear m17 HO2
            refine till_late 12 (v := ?v12b) (by kernel_rfl) (by kernel_rfl) (by kernel_rfl) (by kernel_rfl) (fun _ _ _ h => h) (by kernel_rfl) ?hw12b ?hy12b ?rest12b
            case hw12b => (simp only [List.getElem?_toArray, List.getElem?_cons_zero, List.getElem?_cons_succ, Option.elim]; rfl)
            case hy12b => (simp only [List.getElem?_toArray, List.getElem?_cons_zero, List.getElem?_cons_succ, Option.elim]; intro wx; go_simp; with_reducible rfl)
            simp only [dstOf, List.getElem?_toArray, List.getElem?_cons_zero, List.getElem?_cons_succ, Option.bind, Act.put, List.setIfInBounds_toArray, List.set_cons_zero, List.set_cons_succ]
            refine till_late 13 (v := ?v13b) (by kernel_rfl) (by kernel_rfl) (by kernel_rfl) (by kernel_rfl) (fun _ _ _ h => h) (by kernel_rfl) ?hw13b ?hy13b ?rest13b
            case hw13b => (simp only [List.getElem?_toArray, List.getElem?_cons_zero, List.getElem?_cons_succ, Option.elim]; rfl)
            case hy13b => (simp only [List.getElem?_toArray, List.getElem?_cons_zero, List.getElem?_cons_succ, Option.elim]; intro wx; go_simp; with_reducible rfl)
            simp only [dstOf, List.getElem?_toArray, List.getElem?_cons_zero, List.getElem?_cons_succ, Option.bind, Act.put, List.setIfInBounds_toArray, List.set_cons_zero, List.set_cons_succ]
            refine till_late 14 (v := ?v14b) (by kernel_rfl) (by kernel_rfl) (by kernel_rfl) (by kernel_rfl) (fun _ _ _ h => h) (by kernel_rfl) ?hw14b ?hy14b ?rest14b
            case hw14b => (simp only [List.getElem?_toArray, List.getElem?_cons_zero, List.getElem?_cons_succ, Option.elim]; rfl)
            case hy14b => (simp only [List.getElem?_toArray, List.getElem?_cons_zero, List.getElem?_cons_succ, Option.elim]; intro wx; go_simp; with_reducible rfl)
            simp only [dstOf, List.getElem?_toArray, List.getElem?_cons_zero, List.getElem?_cons_succ, Option.bind, Act.put, List.setIfInBounds_toArray, List.set_cons_zero, List.set_cons_succ]
            refine till_late 16 (v := ?v16b) (by kernel_rfl) (by kernel_rfl) (by kernel_rfl) (by kernel_rfl) (fun _ _ _ h => h) (by kernel_rfl) ?hw16b ?hy16b ?rest16b
            case hw16b => (simp only [List.getElem?_toArray, List.getElem?_cons_zero, List.getElem?_cons_succ, Option.elim]; rfl)
            case hy16b => (simp only [List.getElem?_toArray, List.getElem?_cons_zero, List.getElem?_cons_succ, Option.elim]; intro wx; go_simp; with_reducible rfl)
            simp only [dstOf, List.getElem?_toArray, List.getElem?_cons_zero, List.getElem?_cons_succ, Option.bind, Act.put, List.setIfInBounds_toArray, List.set_cons_zero, List.set_cons_succ]
            refine till_step 15 (by kernel_rfl) (by kernel_rfl) (fun K hK => ?_)
            simp only [List.getElem?_toArray, List.getElem?_cons_zero, List.getElem?_cons_succ, Option.elim]
            rw [if_pos (by rfl)]
            go_simp
            go_at_call 18
            refine (HN1.out).mono ?_
            rintro e w18 ⟨rfl, rfl⟩
            refine hK.out _ _ ?_
            clear hK K
            try simp only [Act.put, List.setIfInBounds_toArray, List.set_cons_zero, List.set_cons_succ]
            refine till_step 17 (by kernel_rfl) (by kernel_rfl) (fun K hK => ?_)
            simp only [List.getElem?_toArray, List.getElem?_cons_zero, List.getElem?_cons_succ, Option.elim]
            rw [if_pos (by rfl)]
            go_simp
            go_at_call 19
            refine (HN2.out).mono ?_
            rintro e w18 ⟨rfl, rfl⟩
            refine hK.out _ _ ?_
            clear hK K
            try simp only [Act.put, List.setIfInBounds_toArray, List.set_cons_zero, List.set_cons_succ]
            refine till_late 18 (v := ?v18b) (by kernel_rfl) (by kernel_rfl) (by kernel_rfl) (by kernel_rfl) (fun _ _ _ h => h) (by kernel_rfl) ?hw18b ?hy18b ?rest18b
            case hw18b => (simp only [List.getElem?_toArray, List.getElem?_cons_zero, List.getElem?_cons_succ, Option.elim]; rfl)
            case hy18b => (simp only [List.getElem?_toArray, List.getElem?_cons_zero, List.getElem?_cons_succ, Option.elim]; intro wx; go_simp; with_reducible rfl)
            simp only [dstOf, List.getElem?_toArray, List.getElem?_cons_zero, List.getElem?_cons_succ, Option.bind, Act.put, List.setIfInBounds_toArray, List.set_cons_zero, List.set_cons_succ]
            refine till_late 19 (v := ?v19b) (by kernel_rfl) (by kernel_rfl) (by kernel_rfl) (by kernel_rfl) (fun _ _ _ h => h) (by kernel_rfl) ?hw19b ?hy19b ?rest19b
            case hw19b => (simp only [List.getElem?_toArray, List.getElem?_cons_zero, List.getElem?_cons_succ, Option.elim]; rfl)
            case hy19b => (simp only [List.getElem?_toArray, List.getElem?_cons_zero, List.getElem?_cons_succ, Option.elim]; intro wx; go_simp; with_reducible rfl)
            simp only [dstOf, List.getElem?_toArray, List.getElem?_cons_zero, List.getElem?_cons_succ, Option.bind, Act.put, List.setIfInBounds_toArray, List.set_cons_zero, List.set_cons_succ]
            refine till_late 20 (v := ?v20b) (by kernel_rfl) (by kernel_rfl) (by kernel_rfl) (by kernel_rfl) (fun _ _ _ h => h) (by kernel_rfl) ?hw20b ?hy20b ?rest20b
            case hw20b => (simp only [List.getElem?_toArray, List.getElem?_cons_zero, List.getElem?_cons_succ, Option.elim]; rfl)
            case hy20b => (simp only [List.getElem?_toArray, List.getElem?_cons_zero, List.getElem?_cons_succ, Option.elim]; intro wx; go_simp; with_reducible rfl)
            simp only [dstOf, List.getElem?_toArray, List.getElem?_cons_zero, List.getElem?_cons_succ, Option.bind, Act.put, List.setIfInBounds_toArray, List.set_cons_zero, List.set_cons_succ]
            refine till_late 21 (v := ?v21b) (by kernel_rfl) (by kernel_rfl) (by kernel_rfl) (by kernel_rfl) (fun _ _ _ h => h) (by kernel_rfl) ?hw21b ?hy21b ?rest21b
            case hw21b => (simp only [List.getElem?_toArray, List.getElem?_cons_zero, List.getElem?_cons_succ, Option.elim]; rfl)
            case hy21b => (simp only [List.getElem?_toArray, List.getElem?_cons_zero, List.getElem?_cons_succ, Option.elim]; intro wx; go_simp; with_reducible rfl)
            simp only [dstOf, List.getElem?_toArray, List.getElem?_cons_zero, List.getElem?_cons_succ, Option.bind, Act.put, List.setIfInBounds_toArray, List.set_cons_zero, List.set_cons_succ]
            refine till_late 22 (v := ?v22b) (by kernel_rfl) (by kernel_rfl) (by kernel_rfl) (by kernel_rfl) (fun _ _ _ h => h) (by kernel_rfl) ?hw22b ?hy22b ?rest22b
            case hw22b => (simp only [List.getElem?_toArray, List.getElem?_cons_zero, List.getElem?_cons_succ, Option.elim]; rfl)
            case hy22b => (simp only [List.getElem?_toArray, List.getElem?_cons_zero, List.getElem?_cons_succ, Option.elim]; intro wx; go_simp; with_reducible rfl)
            simp only [dstOf, List.getElem?_toArray, List.getElem?_cons_zero, List.getElem?_cons_succ, Option.bind, Act.put, List.setIfInBounds_toArray, List.set_cons_zero, List.set_cons_succ]
            refine till_late 23 (v := ?v23b) (by kernel_rfl) (by kernel_rfl) (by kernel_rfl) (by kernel_rfl) (fun _ _ _ h => h) (by kernel_rfl) ?hw23b ?hy23b ?rest23b
            case hw23b => (simp only [List.getElem?_toArray, List.getElem?_cons_zero, List.getElem?_cons_succ, Option.elim]; rfl)
            case hy23b => (simp only [List.getElem?_toArray, List.getElem?_cons_zero, List.getElem?_cons_succ, Option.elim]; intro wx; go_simp; with_reducible rfl)
            simp only [dstOf, List.getElem?_toArray, List.getElem?_cons_zero, List.getElem?_cons_succ, Option.bind, Act.put, List.setIfInBounds_toArray, List.set_cons_zero, List.set_cons_succ]
            refine till_late 24 (v := ?v24b) (by kernel_rfl) (by kernel_rfl) (by kernel_rfl) (by kernel_rfl) (fun _ _ _ h => h) (by kernel_rfl) ?hw24b ?hy24b ?rest24b
            case hw24b => (simp only [List.getElem?_toArray, List.getElem?_cons_zero, List.getElem?_cons_succ, Option.elim]; rfl)
            case hy24b => (simp only [List.getElem?_toArray, List.getElem?_cons_zero, List.getElem?_cons_succ, Option.elim]; intro wx; go_simp; with_reducible rfl)
            simp only [dstOf, List.getElem?_toArray, List.getElem?_cons_zero, List.getElem?_cons_succ, Option.bind, Act.put, List.setIfInBounds_toArray, List.set_cons_zero, List.set_cons_succ]
            refine till_late 25 (v := ?v25b) (by kernel_rfl) (by kernel_rfl) (by kernel_rfl) (by kernel_rfl) (fun _ _ _ h => h) (by kernel_rfl) ?hw25b ?hy25b ?rest25b
            case hw25b => (simp only [List.getElem?_toArray, List.getElem?_cons_zero, List.getElem?_cons_succ, Option.elim]; rfl)
            case hy25b => (simp only [List.getElem?_toArray, List.getElem?_cons_zero, List.getElem?_cons_succ, Option.elim]; intro wx; go_simp; with_reducible rfl)
            simp only [dstOf, List.getElem?_toArray, List.getElem?_cons_zero, List.getElem?_cons_succ, Option.bind, Act.put, List.setIfInBounds_toArray, List.set_cons_zero, List.set_cons_succ]
            refine till_late 26 (v := ?v26b) (by kernel_rfl) (by kernel_rfl) (by kernel_rfl) (by kernel_rfl) (fun _ _ _ h => h) (by kernel_rfl) ?hw26b ?hy26b ?rest26b
            case hw26b => (simp only [List.getElem?_toArray, List.getElem?_cons_zero, List.getElem?_cons_succ, Option.elim]; rfl)
            case hy26b => (simp only [List.getElem?_toArray, List.getElem?_cons_zero, List.getElem?_cons_succ, Option.elim]; intro wx; go_simp; with_reducible rfl)
            simp only [dstOf, List.getElem?_toArray, List.getElem?_cons_zero, List.getElem?_cons_succ, Option.bind, Act.put, List.setIfInBounds_toArray, List.set_cons_zero, List.set_cons_succ]
            refine till_late 27 (v := ?v27b) (by kernel_rfl) (by kernel_rfl) (by kernel_rfl) (by kernel_rfl) (fun _ _ _ h => h) (by kernel_rfl) ?hw27b ?hy27b ?rest27b
            case hw27b => (simp only [List.getElem?_toArray, List.getElem?_cons_zero, List.getElem?_cons_succ, Option.elim]; rfl)
            case hy27b => (simp only [List.getElem?_toArray, List.getElem?_cons_zero, List.getElem?_cons_succ, Option.elim]; intro wx; go_simp; with_reducible rfl)
            simp only [dstOf, List.getElem?_toArray, List.getElem?_cons_zero, List.getElem?_cons_succ, Option.bind, Act.put, List.setIfInBounds_toArray, List.set_cons_zero, List.set_cons_succ]
            refine till_late 28 (v := ?v28b) (by kernel_rfl) (by kernel_rfl) (by kernel_rfl) (by kernel_rfl) (fun _ _ _ h => h) (by kernel_rfl) ?hw28b ?hy28b ?rest28b
            case hw28b => (simp only [List.getElem?_toArray, List.getElem?_cons_zero, List.getElem?_cons_succ, Option.elim]; rfl)
            case hy28b => (simp only [List.getElem?_toArray, List.getElem?_cons_zero, List.getElem?_cons_succ, Option.elim]; intro wx; go_simp; with_reducible rfl)
            simp only [dstOf, List.getElem?_toArray, List.getElem?_cons_zero, List.getElem?_cons_succ, Option.bind, Act.put, List.setIfInBounds_toArray, List.set_cons_zero, List.set_cons_succ]
            refine till_late 29 (v := ?v29b) (by kernel_rfl) (by kernel_rfl) (by kernel_rfl) (by kernel_rfl) (fun _ _ _ h => h) (by kernel_rfl) ?hw29b ?hy29b ?rest29b
            case hw29b => (simp only [List.getElem?_toArray, List.getElem?_cons_zero, List.getElem?_cons_succ, Option.elim]; rfl)
            case hy29b => (simp only [List.getElem?_toArray, List.getElem?_cons_zero, List.getElem?_cons_succ, Option.elim]; intro wx; go_simp; with_reducible rfl)
            simp only [dstOf, List.getElem?_toArray, List.getElem?_cons_zero, List.getElem?_cons_succ, Option.bind, Act.put, List.setIfInBounds_toArray, List.set_cons_zero, List.set_cons_succ]
            refine till_end (by kernel_rfl) ?_ _
            go_wp2
            go_roundw
            case rel => exact ⟨k + 1, by omega, by go_num, M17.out⟩
            case measure => simp [intOf]; omega
          · obtain rfl : k = l.length := by omega
            have hm := M.out
            rw [List.take_length] at hm
            have MA := Lib.hid hm
            clear hm M
            have hl1 : (ofs T1 l).length ≤ T1.length + l.length := ofs_len T1 l
            have HTA := Lib.hid (ofs_text HT1.out l)
            obtain ⟨tx, tb, htx⟩ : ∃ s x, text (ofs T1 l) name = (s, x) := ⟨_, _, rfl⟩
            have HTX := Lib.hid htx
            clear htx
            go_wp2_with (go_at_call 16; refine (n_text_b MA.out (i := 0) rfl HTX.out hname HTA.out).mono ?_; rintro e w14 ⟨rfl, hb14⟩; refine Hid.out ?_)
            refine Lib.hid ?_
            have M14 := Lib.hid (MA.out.fresh hb14)
            clear hb14 MA
            go_wp2_with (go_at_call 17; refine (r_text_eq M14.out (i := 1) rfl HTX.out).mono ?_; rintro e w15 ⟨rfl, rfl⟩; refine Hid.out ?_)
            refine Lib.hid ?_
            go_wp2_with (go_at_call 21; refine (n_all M14.out (i := 0) rfl HTA.out (by omega)).mono ?_; rintro e w16 ⟨va, rfl, m16⟩; refine Hid.out ?_)
            refine Lib.hid ?_
            have M16 := Lib.hid (show OMem w w16 [.names ba (ofs T1 l), .ref bb (ofs T1 l), .own 9 va (strVs (ofs T1 l))] from m16)
            clear m16 M14
            go_wp2_with (go_at_call 22; refine (r_all M16.out (i := 1) rfl (by omega)).mono ?_; rintro e w17 ⟨vb, rfl, m17⟩; refine Hid.out ?_)
            refine Lib.hid ?_
            have M17 := Lib.hid (show OMem w w17 [.names ba (ofs T1 l), .ref bb (ofs T1 l), .own 9 va (strVs (ofs T1 l)), .own 9 vb (strVs (ofs T1 l))] from m17)
            clear m17 M16
            have HS := strings_any va vb _ _ (M17.out.texts (i := 2) rfl) (M17.out.texts (i := 3) rfl) (by omega)
            rw [decide_eq_true rfl] at HS
            have HS := Lib.hid HS
            go_wp2_with (go_at_call 20; refine (HS.out).mono ?_; rintro e w18 ⟨rfl, hb18⟩; refine Hid.out ?_)
            refine Lib.hid ?_
            have M18 := Lib.hid (M17.out.fresh hb18)
            clear hb18 M17 HS
            go_wp2
            go_ret
            exact ⟨rfl, M18.out.below⟩
    · have hgg : few l 24 = false := by simpa using hg
      rw [hgg] at HF2
      clear hg hgg
      go_wp2_with (go_at_call 8; refine (HF2.out).mono ?_; rintro e w3 ⟨rfl, rfl⟩; refine Hid.out ?_)
      refine Lib.hid ?_
      clear HF2
      go_wp2
      go_ret
      exact ⟨rfl, M1.out.below⟩
  · have hff : few f 24 = false := by simpa using hf
    rw [hff] at HF1
    clear hf hff
    go_wp2_with (go_at_call 8; refine (HF1.out).mono ?_; rintro e w3 ⟨rfl, rfl⟩; refine Hid.out ?_)
    refine Lib.hid ?_
    clear HF1
    go_wp2
    go_ret
    exact ⟨rfl, M1.out.below⟩
end Go.Proofs.Ytjhedlkanphlhaa

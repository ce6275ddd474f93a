/- Package lex: Lex; the contracts of the package. -/
import Derived.Test.YtenbdnkipkfpkaaDoorLte
namespace Go.Proofs.YtenbdnkipkfpkaaDoor
open Go.RowKit Go.Maps Go.ChangeMaps Go.MapKept
open Lx
attribute [local go_sem ↓] Go.wp_at_zero Go.wp_at_succ
theorem lexed_of {s : S} {ts : List Tk} {p e : Int} {a : Option Addr} {n c : Nat} {w w' : World} (h : lexRes s = (ts, p, e)) (hn : n = ts.length) (hv : TkAt w' (.slice a n c) ts) (hb : Below w.heap.size w w') :
    Lexed w (lexRes s) (.returned (.tuple #[.slice a n c, .int .i64 p, .int .i64 e])) w' := by
  subst hn; rw [h]; exact ⟨a, c, rfl, hv, hb⟩
theorem p_first_ok {c : UInt8} {r t : S} {k n : Int} (hs : (c :: r).length ≤ 50000) (h : tok (c :: r) = .ok (k, t, n)) (w : World) (hE : Env w) :
    Calls Tryd.prog 23 #[.string (bs (c :: r))] w fun e w' => e = .returned (.tuple #[.agg #[.int .i64 k, .string (bs t), .int .i64 n, .int .i64 0], .int .i64 0]) ∧ Below w.heap.size w w' := by
  have := p_first (w := w) hE hs
  rwa [tokRes_ok h] at this
theorem p_first_err {c : UInt8} {r : S} {e : Int} (hs : (c :: r).length ≤ 50000) (h : tok (c :: r) = .error e) (w : World) (hE : Env w) :
    Calls Tryd.prog 23 #[.string (bs (c :: r))] w fun v w' => v = .returned (.tuple #[.agg #[.int .i64 0, .string ⟨#[]⟩, .int .i64 0, .int .i64 0], .int .i64 e]) ∧ Below w.heap.size w w' := by
  have := p_first (w := w) hE hs
  rwa [tokRes_err h] at this
section
variable {w : World}
set_option maxHeartbeats 4000000 in
set_option maxRecDepth 100000 in
theorem p_lex {s : S} (hE : Env w) (hs : s.length ≤ 10000) : Calls Tryd.prog 11 #[.string (bs s)] w (Lexed w (lexRes s)) := by
  have hz := bs_size s
  have HE := Lib.hid hE
  clear hE
  go_enter Tryd.func11, Tryd.ntmps11
  by_cases hbig : 2000 < s.length
  · have HR := Lib.hid (lexRes_big hbig)
    have hb' : (2000 : Int) < (s.length : Int) := by omega
    go_wp2
    go_ret3
    exact lexed_of HR.out rfl (TkAt.nil _) (Below.refl _ _)
  · have HB := Lib.hid hbig
    have hb' : ¬ (2000 : Int) < (s.length : Int) := by omega
    go_wp2
    go_loopw [5, 6] (fun o i wr => ∃ (a : Nat) (ks : List Tk) (oa : Option Addr) (oc : Nat), a ≤ s.length ∧ ks.length ≤ a ∧ i = .int .i64 a ∧ o = .slice oa ks.length oc ∧ Hid (LexTo s ks a) ∧ OMem w wr [.row 25 4 (.slice oa ks.length oc) ks.length (tkVs ks)]) (fun _ i _ => s.length - (intOf i).toNat)
    case atStart => exact ⟨0, [], none, 0, Nat.zero_le _, Nat.le_refl _, rfl, rfl, Lib.hid (LexTo.start s), (OMem.start w).rowNil _ _⟩
    case round =>
      obtain ⟨a, ks, oa, oc, ha, hka, rfl, rfl, HT, m⟩ := hrel
      have M := Lib.hid m
      clear m
      by_cases hlt : a < s.length
      · obtain ⟨c, hc⟩ : ∃ c, s[a]? = some c := ⟨_, List.getElem?_eq_getElem hlt⟩
        obtain ⟨i0, gc⟩ := bs_get hc
        have HD := Lib.hid (show s.drop a = c :: s.drop (a + 1) by rw [List.getElem?_eq_getElem hlt] at hc; cases hc; exact List.drop_eq_getElem_cons hlt)
        clear hc
        generalize s.drop (a + 1) = r at HD
        have hx : (bs s).extract a s.length = bs (c :: r) := by rw [bs_extract, HD.out, List.take_of_length_le (by rw [← HD.out]; simp)]
        have hrl : (c :: r).length ≤ 50000 := by rw [← HD.out, List.length_drop]; omega
        have hew : Env wr := HE.out.keep M.out.below
        cases hbl : Lx.blank c with
        | true =>
          have HQ := Lib.hid (l_blank_of hbl)
          have HN := Lib.hid (HT.out.blank HD.out hbl)
          clear hbl hx hew
          go_wp2_with (go_at_call 22; refine (HQ.out _).mono ?_; rintro e w2 ⟨rfl, rfl⟩; refine Hid.out ?_)
          refine Lib.hid ?_
          clear HQ gc
          go_wp2
          go_roundw
          case rel => exact ⟨a + 1, ks, oa, oc, by omega, by omega, by go_num, rfl, HN, M.out⟩
          case measure => simp [intOf]; omega
        | false =>
          have HQ := Lib.hid (l_blank_of hbl)
          cases ht : tok (c :: r) with
          | error e0 =>
            have HK := Lib.hid (p_first_err hrl ht wr hew)
            have HR := Lib.hid (lexRes_err HB.out (HT.out.bad HD.out hbl ht))
            have he := tok_err_ne ht
            clear hbl ht hew
            go_wp2_with (go_at_call 22; refine (HQ.out _).mono ?_; rintro e w2 ⟨rfl, rfl⟩; refine Hid.out ?_)
            refine Lib.hid ?_
            clear HQ gc
            go_wp2_with (go_at_call 23; refine (HK.out).mono ?_; rintro e w3 ⟨rfl, b3⟩; refine Hid.out ?_)
            refine Lib.hid ?_
            have m3 := M.out.fresh b3
            have B3 := Lib.hid (m3.raw (.cells #[.int .i64 0, .string ⟨#[]⟩, .int .i64 0, .int .i64 0] 25)).below
            clear HK m3 b3 M
            go_wp2
            go_ret3
            exact lexed_of HR.out rfl (TkAt.nil _) B3.out
          | ok q =>
            obtain ⟨k, t, n⟩ := q
            have HK := Lib.hid (p_first_ok hrl ht wr hew)
            have HN := Lib.hid (HT.out.tok HD.out hbl ht)
            have hl := tok_len ht
            have hl1 := hl.1
            have hl2 : t.length ≤ s.length - a := by have := congrArg List.length HD.out; simp at this; have := hl.2.1; simp at this; omega
            have zt := bs_size t
            clear hbl ht hl hew
            go_wp2_with (go_at_call 22; refine (HQ.out _).mono ?_; rintro e w2 ⟨rfl, rfl⟩; refine Hid.out ?_)
            refine Lib.hid ?_
            clear HQ gc
            go_wp2_with (go_at_call 23; refine (HK.out).mono ?_; rintro e w3 ⟨rfl, b3⟩; refine Hid.out ?_)
            refine Lib.hid ?_
            have m3 := M.out.fresh b3
            clear HK b3 M
            have m4 := m3.raw (.cells #[.int .i64 k, .string (bs t), .int .i64 n, .int .i64 a] 25)
            obtain ⟨ya, yc, w6, r6, m6⟩ := m4.pushK (i := 0) rfl ⟨k, t, n, a⟩ (by omega)
            rw [show (w3.alloc (.cells #[.int .i64 k, .string (bs t), .int .i64 n, .int .i64 a] 25)).heap.size = w3.heap.size + 1 by simp] at r6
            have R6 := Lib.hid r6
            have M6 := Lib.hid (show OMem w w6 [.row 25 4 (.slice ya (ks.length + 1) yc) (ks.length + 1) (tkVs (ks ++ [⟨k, t, n, a⟩])), .raw w3.heap.size (.cells #[.int .i64 k, .string (bs t), .int .i64 n, .int .i64 a] 25 (0, 0))] from m6)
            clear m3 m4 m6 r6
            go_wp2_with (at_builtin; refine Hid.out ?_)
            refine Lib.hid ?_
            refine Lib.wpList_append_run _ rfl _ _ _ _ rfl _ _ rfl rfl _ _ R6.out ?_
            clear R6
            have c1 : (w6).cell? ⟨w3.heap.size, 1, none⟩ = some (.string (bs t)) := by rw [Lib.cell_of_heap (M6.out.raw_at (i := 1) rfl)]; rfl
            go_wp2
            go_roundw
            case rel => exact ⟨a + t.length, ks ++ [⟨k, t, n, a⟩], ya, yc, by omega, by simp; omega, by go_num, by simp, HN, by simpa using M6.out.take 1⟩
            case measure => simp [intOf]; omega
      · obtain rfl : s.length = a := by omega
        have HR := Lib.hid (lexRes_ok HB.out HT.out.end_)
        obtain ⟨ya, yc, w6, r6, m6⟩ := M.out.pushK (i := 0) rfl ⟨3, [], 0, (s.length : Int)⟩ (by omega)
        have R6 := Lib.hid r6
        have M6 := Lib.hid (show OMem w w6 [.row 25 4 (.slice ya (ks.length + 1) yc) (ks.length + 1) (tkVs (ks ++ [⟨3, [], 0, (s.length : Int)⟩]))] from m6)
        clear m6 r6
        go_wp2_with (at_builtin; refine Hid.out ?_)
        refine Lib.hid ?_
        refine Lib.wpList_append_run _ rfl _ _ _ _ rfl _ _ rfl rfl _ _ R6.out ?_
        clear R6
        go_wp2
        go_ret3
        refine lexed_of HR.out (by simp) (TkAt.of_own (base := 0) (e := 25) (n := ks.length + 1) ?_) M6.out.below
        exact M6.out.rowAt (i := 0) rfl
end
theorem theApi : LApi Env where
  keep := fun h hb => h.keep hb
  lex_ := fun hE hs => p_lex hE hs
  text_ := fun _ hv h1 h2 _ => p_text hv (by omega) (by omega)
  word_ := fun _ hs => (p_word (by omega)).mono fun _ _ ⟨h1, h2⟩ => ⟨h1, h2 ▸ Below.refl _ _⟩
  number_ := fun hE hs => p_number hE (by omega)
end Go.Proofs.YtenbdnkipkfpkaaDoor

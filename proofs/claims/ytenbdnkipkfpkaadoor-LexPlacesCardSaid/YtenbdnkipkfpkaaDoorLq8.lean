/- The reference of layer 11: Lex. -/
import Derived.Test.YtenbdnkipkfpkaaDoorLq7
namespace Go.Proofs.YtenbdnkipkfpkaaDoor
open Go.RowKit Go.Maps Go.ChangeMaps Go.MapKept
open Lx
attribute [local go_sem ↓] Go.wp_at_zero Go.wp_at_succ
/-- What Lex answers: the tokens, the position and the number of the error. -/
def lexRes (s : S) : List Tk × Int × Int := if 2000 < s.length then ([], 0, 6) else match lex s 0 with | .ok ts => (ts, 0, 0) | .error (p, e) => ([], p, e)
theorem lexRes_big {s : S} (h : 2000 < s.length) : lexRes s = ([], 0, 6) := by unfold lexRes; rw [if_pos h]
theorem lexRes_ok {s : S} {ts : List Tk} (h : ¬ 2000 < s.length) (h2 : lex s 0 = .ok ts) : lexRes s = (ts, 0, 0) := by unfold lexRes; rw [if_neg h, h2]
theorem lexRes_err {s : S} {p e : Int} (h : ¬ 2000 < s.length) (h2 : lex s 0 = .error (p, e)) : lexRes s = ([], p, e) := by unfold lexRes; rw [if_neg h, h2]
/-- So far: the tokens of the first a bytes are ks. -/
def LexTo (s : S) (ks : List Tk) (a : Nat) : Prop := lex s 0 = match lex (s.drop a) a with | .ok ts => .ok (ks ++ ts) | .error e => .error e
theorem LexTo.start (s : S) : LexTo s [] 0 := by
  unfold LexTo
  rw [List.drop_zero, show ((0 : Nat) : Int) = 0 from rfl]
  cases lex s 0 <;> rfl
theorem drop_next {s r : S} {a : Nat} {c : UInt8} (h : s.drop a = c :: r) : s.drop (a + 1) = r := by
  rw [← List.drop_drop, h]; rfl
theorem LexTo.blank {s r : S} {ks : List Tk} {a : Nat} {c : UInt8} (h : LexTo s ks a) (hd : s.drop a = c :: r) (hb : Lx.blank c = true) : LexTo s ks (a + 1) := by
  unfold LexTo at h ⊢
  rw [hd, lex_blank hb] at h
  rw [drop_next hd]
  exact h
theorem LexTo.bad {s r : S} {ks : List Tk} {a : Nat} {c : UInt8} {e : Int} (h : LexTo s ks a) (hd : s.drop a = c :: r) (hb : Lx.blank c = false) (ht : tok (c :: r) = .error e) : lex s 0 = .error ((a : Int), e) := by
  unfold LexTo at h
  rw [hd, lex_bad (by simp [hb]) ht] at h
  exact h
theorem LexTo.tok {s r w : S} {ks : List Tk} {a : Nat} {c : UInt8} {k n : Int} (h : LexTo s ks a) (hd : s.drop a = c :: r) (hb : Lx.blank c = false) (ht : tok (c :: r) = .ok (k, w, n)) : LexTo s (ks ++ [⟨k, w, n, a⟩]) (a + w.length) := by
  unfold LexTo at h ⊢
  rw [hd, lex_tok (by simp [hb]) ht, ← hd, List.drop_drop] at h
  rw [h, show ((a + w.length : Nat) : Int) = (a : Int) + (w.length : Int) by omega]
  cases lex (s.drop (a + w.length)) ((a : Int) + (w.length : Int)) with
  | ok ts => simp
  | error e => rfl
theorem LexTo.end_ {s : S} {ks : List Tk} (h : LexTo s ks s.length) : lex s 0 = .ok (ks ++ [⟨3, [], 0, (s.length : Int)⟩]) := by
  unfold LexTo at h
  rw [List.drop_length, lex_nil] at h
  exact h
theorem tok_err_ne {s : S} {e : Int} (h : tok s = .error e) : (e != 0) = true := by
  cases s with
  | nil => cases h; rfl
  | cons c r =>
    rw [tok_cons] at h
    split at h
    · split at h
      · cases h
      · cases h; rfl
    · split at h
      · split at h
        · cases h
        · cases h; rfl
      · split at h
        · cases h
        · cases h; rfl
theorem q_blank_of {c : UInt8} {b : Bool} (h : Lx.blank c = b) (w : World) : Calls Tryd.prog 21 #[.int .u8 (c.toNat : Int)] w fun e w' => e = .returned (.bool b) ∧ w = w' := by have := q_blank (w := w) (c := c); rwa [h] at this
theorem q_token_ok {s : S} {a : Nat} {c : UInt8} {r t : S} {k n : Int} (hs : s.length ≤ 100000) (hd : s.drop a = c :: r) (h : tok (c :: r) = .ok (k, t, n)) (w : World) :
    Calls Tryd.prog 24 #[.string (bs s), .int .i64 a] w fun e w' => e = .returned (.tuple #[.agg #[.int .i64 k, .string (bs t), .int .i64 n, .int .i64 a], .int .i64 0]) ∧ Below w.heap.size w w' := by
  have := q_token (w := w) hs hd
  rwa [tokRes_ok h] at this
theorem q_token_err {s : S} {a : Nat} {c : UInt8} {r : S} {e : Int} (hs : s.length ≤ 100000) (hd : s.drop a = c :: r) (h : tok (c :: r) = .error e) (w : World) :
    Calls Tryd.prog 24 #[.string (bs s), .int .i64 a] w fun v w' => v = .returned (.tuple #[.agg #[.int .i64 0, .string ⟨#[]⟩, .int .i64 0, .int .i64 0], .int .i64 e]) ∧ Below w.heap.size w w' := by
  have := q_token (w := w) hs hd
  rwa [tokRes_err h] at this
theorem lex_ret {s : S} {ts : List Tk} {p e : Int} {v : Value} {w w' : World} (h : lexRes s = (ts, p, e)) (hv : TkAt w' v ts) (hb : Below w.heap.size w w') :
    ∃ u, Ending.returned (.tuple #[v, .int .i64 p, .int .i64 e]) = .returned (.tuple #[u, .int .i64 (lexRes s).2.1, .int .i64 (lexRes s).2.2]) ∧ TkAt w' u (lexRes s).1 ∧ Below w.heap.size w w' := by
  rw [h]; exact ⟨v, rfl, hv, hb⟩
section
variable {w : World}
set_option maxHeartbeats 4000000 in
set_option maxRecDepth 100000 in
theorem q_lex {s : S} (hs : s.length ≤ 100000) :
    Calls Tryd.prog 12 #[.string (bs s)] w fun e w' => ∃ u, e = .returned (.tuple #[u, .int .i64 (lexRes s).2.1, .int .i64 (lexRes s).2.2]) ∧ TkAt w' u (lexRes s).1 ∧ Below w.heap.size w w' := by
  have hz := bs_size s
  go_enter Tryd.func12, Tryd.ntmps12
  by_cases hbig : 2000 < s.length
  · have HR := Lib.hid (lexRes_big hbig)
    have hb' : (2000 : Int) < (s.length : Int) := by omega
    go_wp2
    go_ret3
    exact lex_ret HR.out (TkAt.nil _) (Below.refl _ _)
  · have HB := Lib.hid hbig
    have hb' : ¬ (2000 : Int) < (s.length : Int) := by omega
    go_wp2
    go_loopw [5, 6] (fun o i wr => ∃ (a : Nat) (ks : List Tk) (oa : Option Addr) (oc : Nat), a ≤ s.length ∧ ks.length ≤ a ∧ i = .int .i64 a ∧ o = .slice oa ks.length oc ∧ Hid (LexTo s ks a) ∧ OMem w wr [.row 25 4 (.slice oa ks.length oc) ks.length (tkVs ks)]) (fun _ i _ => s.length - (intOf i).toNat)
    case atStart => exact ⟨0, [], none, 0, Nat.zero_le _, Nat.le_refl _, rfl, rfl, Lib.hid (LexTo.start s), (OMem.start w).rowNil _ _⟩
    case round =>
      obtain ⟨a, ks, oa, oc, ha, hka, rfl, rfl, HT, m⟩ := hrel
      have M := Lib.hid m
      clear m
      by_cases hlt : a < s.length
      · obtain ⟨c, hc⟩ : ∃ c, s[a]? = some c := ⟨_, List.getElem?_eq_getElem hlt⟩
        obtain ⟨i0, gc⟩ := bs_get hc
        have HD := Lib.hid (show s.drop a = c :: s.drop (a + 1) by rw [List.getElem?_eq_getElem hlt] at hc; cases hc; exact List.drop_eq_getElem_cons hlt)
        clear hc
        generalize s.drop (a + 1) = r at HD
        cases hbl : Lx.blank c with
        | true =>
          have HQ := Lib.hid (q_blank_of hbl)
          have HN := Lib.hid (HT.out.blank HD.out hbl)
          clear hbl
          go_wp2_with (go_at_call 21; refine (HQ.out _).mono ?_; rintro e w2 ⟨rfl, rfl⟩; refine Hid.out ?_)
          refine Lib.hid ?_
          clear HQ gc
          go_wp2
          go_roundw
          case rel => exact ⟨a + 1, ks, oa, oc, by omega, by omega, by go_num, rfl, HN, M.out⟩
          case measure => simp [intOf]; omega
        | false =>
          have HQ := Lib.hid (q_blank_of hbl)
          cases ht : tok (c :: r) with
          | error e0 =>
            have HK := Lib.hid (q_token_err hs HD.out ht)
            have HR := Lib.hid (lexRes_err HB.out (HT.out.bad HD.out hbl ht))
            have he := tok_err_ne ht
            clear hbl ht
            go_wp2_with (go_at_call 21; refine (HQ.out _).mono ?_; rintro e w2 ⟨rfl, rfl⟩; refine Hid.out ?_)
            refine Lib.hid ?_
            clear HQ gc
            go_wp2_with (go_at_call 24; refine (HK.out _).mono ?_; rintro e w3 ⟨rfl, b3⟩; refine Hid.out ?_)
            refine Lib.hid ?_
            have m3 := M.out.fresh b3
            have B3 := Lib.hid (m3.raw (.cells #[.int .i64 0, .string ⟨#[]⟩, .int .i64 0, .int .i64 0] 25)).below
            clear HK m3 b3 M
            go_wp2
            go_ret3
            exact lex_ret HR.out (TkAt.nil _) B3.out
          | ok q =>
            obtain ⟨k, t, n⟩ := q
            have HK := Lib.hid (q_token_ok hs HD.out ht)
            have HN := Lib.hid (HT.out.tok HD.out hbl ht)
            have hl := tok_len ht
            have hl1 := hl.1
            have hl2 : t.length ≤ s.length - a := by have := congrArg List.length HD.out; simp at this; have := hl.2.1; simp at this; omega
            have zt := bs_size t
            clear hbl ht hl
            go_wp2_with (go_at_call 21; refine (HQ.out _).mono ?_; rintro e w2 ⟨rfl, rfl⟩; refine Hid.out ?_)
            refine Lib.hid ?_
            clear HQ gc
            go_wp2_with (go_at_call 24; refine (HK.out _).mono ?_; rintro e w3 ⟨rfl, b3⟩; refine Hid.out ?_)
            refine Lib.hid ?_
            have m3 := M.out.fresh b3
            clear HK b3 M
            have m4 := m3.raw (.cells #[.int .i64 k, .string (bs t), .int .i64 n, .int .i64 a] 25)
            obtain ⟨ya, yc, w6, r6, m6⟩ := m4.pushK (i := 0) rfl ⟨k, t, n, a⟩ (by omega)
            rw [show (w3.alloc (.cells #[.int .i64 k, .string (bs t), .int .i64 n, .int .i64 a] 25)).heap.size = w3.heap.size + 1 by simp] at r6
            have R6 := Lib.hid r6
            have M6 := Lib.hid (show OMem w w6 [.row 25 4 (.slice ya (ks.length + 1) yc) (ks.length + 1) (tkVs (ks ++ [⟨k, t, n, a⟩])), .raw w3.heap.size (.cells #[.int .i64 k, .string (bs t), .int .i64 n, .int .i64 a] 25 (0, 0))] from m6)
            clear m3 m4 m6 r6
            go_wp2_with (at_builtin; refine Hid.out ?_)
            refine Lib.hid ?_
            refine Lib.wpList_append_run _ rfl _ _ _ _ rfl _ _ rfl rfl _ _ R6.out ?_
            clear R6
            have c1 : (w6).cell? ⟨w3.heap.size, 1, none⟩ = some (.string (bs t)) := by rw [Lib.cell_of_heap (M6.out.raw_at (i := 1) rfl)]; rfl
            go_wp2
            go_roundw
            case rel => exact ⟨a + t.length, ks ++ [⟨k, t, n, a⟩], ya, yc, by omega, by simp; omega, by go_num, by simp, HN, by simpa using M6.out.take 1⟩
            case measure => simp [intOf]; omega
      · obtain rfl : a = s.length := by omega
        have HR := Lib.hid (lexRes_ok HB.out HT.out.end_)
        obtain ⟨ya, yc, w6, r6, m6⟩ := M.out.pushK (i := 0) rfl ⟨3, [], 0, (s.length : Int)⟩ (by omega)
        have R6 := Lib.hid r6
        have M6 := Lib.hid (show OMem w w6 [.row 25 4 (.slice ya (ks.length + 1) yc) (ks.length + 1) (tkVs (ks ++ [⟨3, [], 0, (s.length : Int)⟩]))] from m6)
        clear m6 r6
        go_wp2_with (at_builtin; refine Hid.out ?_)
        refine Lib.hid ?_
        refine Lib.wpList_append_run _ rfl _ _ _ _ rfl _ _ rfl rfl _ _ R6.out ?_
        clear R6
        go_wp2
        go_ret3
        refine lex_ret HR.out (TkAt.of_own (base := 0) (e := 25) (n := ks.length + 1) ?_) M6.out.below
        exact M6.out.rowAt (i := 0) rfl
end
end Go.Proofs.YtenbdnkipkfpkaaDoor

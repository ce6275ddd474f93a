/- What the listed package-level variables give the walks of layer 12 (strconv's table and its two errors; syntax's table of words), and one start that meets them. -/
import Derived.Test.YtlefgffnjcmfoaaGreatDoorMYrow
import Derived.Test.YtlefgffnjcmfoaaGreatDoorMA
import Derived.Test.YtlefgffnjcmfoaaGreatDoorMC
import Derived.Test.YtlefgffnjcmfoaaGreatDoorCards
import Derived.Test.YtlefgffnjcmfoaaGreatDoorTie
import Derived.SevenTiedAt
import Derived.SliceStrings
import Derived.LaidMore
import Derived.Stop.Joined
import Derived.Stop.LaidErr
import Derived.Lib.LaidTab
import Derived.Lib.LaidU8
import Derived.MakeChecks
namespace Go.Proofs.YtlefgffnjcmfoaaGreatDoor
open Go.ChangeShapes Go.WideShapes Go.ChangeAt Go.RowKit

/-- Their blocks lie below this one. -/
def G0 : Nat := max (max 2 3) 4 + 1
/-- The rows of the table of words. -/
def rowsW : List (List Lx.S) := [Sy.deW, Sy.thW, Sy.joW, Sy.hiW, Sy.reW, Sy.leW]
structure Env (w : World) : Prop where
  tab : Lib.TabIs Tryz.prog w "internal/strconv.uint64pow10" .u64 Lib.pow10Tab
  syn : ∃ tp p, w.var? Tryz.prog "strconv.ErrSyntax" = some #[.iface tp p]
  rng : ∃ tp p, w.var? Tryz.prog "strconv.ErrRange" = some #[.iface tp p]
  size : G0 ≤ w.heap.size
  wrd : ∀ (k : Nat) (T : List Lx.S), rowsW[k]? = some T → ∃ x, w.cell? ⟨0, k, none⟩ = some x ∧ TxAt w x T
theorem gTab : Tryz.prog.globalNamed "internal/strconv.uint64pow10" = some 2 := by kernel_rfl
theorem gSyn : Tryz.prog.globalNamed "strconv.ErrSyntax" = some 3 := by kernel_rfl
theorem gRng : Tryz.prog.globalNamed "strconv.ErrRange" = some 4 := by kernel_rfl
theorem Env.keep {w w' : World} (h : Env w) (hb : Below w.heap.size w w') : Env w' := by
  obtain ⟨tp, p, h1⟩ := h.syn
  obtain ⟨tq, q, h2⟩ := h.rng
  have hs := h.size
  exact ⟨var?_below hb gTab (by unfold G0 at hs; omega) h.tab, ⟨tp, p, var?_below hb gSyn (by unfold G0 at hs; omega) h1⟩, ⟨tq, q, var?_below hb gRng (by unfold G0 at hs; omega) h2⟩, Nat.le_trans h.size hb.size, fun k T hk => by
    obtain ⟨x, h3, h4⟩ := h.wrd k T hk
    exact ⟨x, below_cell h3 hb, h4.keep hb⟩⟩
/-- The variables as every row of this seat lists them. -/
def laidList : List (String × DataW Unit) := [("math/bits.deBruijn32tab", Rows.laid_math_bits_deBruijn32tab), ("math/bits.deBruijn64tab", Rows.laid_math_bits_deBruijn64tab), ("internal/strconv.uint64pow10", Rows.laid_internal_strconv_uint64pow10), ("strconv.ErrRange", Rows.laid_strconv_ErrRange), ("strconv.ErrSyntax", Rows.laid_strconv_ErrSyntax), ("lingua/syntax.words", Rows.laid_lingua_syntax_words)]

theorem door_met (os : Os) (args : Array Value) : laidMetH Tryz.prog laidList ((World.doorLaid Tryz.prog 4000 os).forCall (fun _ _ => 0) ⟨#[], args, []⟩).memory := by
  rw [MakeChecks.laidMetH_plain _ _ _ (by kernel_rfl)]
  exact laidMet_of_run' 8 (by kernel_rfl) (by kernel_rfl)

theorem gTabType : (Tryz.prog.globals[2]?).map (·.type) = some 108 := by kernel_rfl
theorem gSynType : (Tryz.prog.globals[3]?).map (·.type) = some 74 := by kernel_rfl
theorem gRngType : (Tryz.prog.globals[4]?).map (·.type) = some 74 := by kernel_rfl
theorem cellsU : Tryz.prog.cellsOf 96 = 1 := by kernel_rfl
theorem cellsTab : Tryz.prog.cellsOf 108 = 20 := by kernel_rfl
theorem cellsErr : Tryz.prog.cellsOf 122 = 1 := by kernel_rfl
theorem star : "*" ++ "errors.errorString" = "*errors.errorString" := by decide
theorem rowErr (u : TypeId) (h : Tryz.prog.typeName? 3 u = some "*errors.errorString") : u = 120 :=
  typeName_ptr_named (nm := "errors.errorString") (by rw [star]; kernel_rfl) (by kernel_rfl) (by decide) u (by rw [star]; exact h)

theorem tabEq : (Rows.laid_internal_strconv_uint64pow10 : DataW Unit) = Lib.tabData .u64 Lib.pow10Tab := by
  have h : Lib.pow10Tab = [1, 10, 100, 1000, 10000, 100000, 1000000, 10000000, 100000000, 1000000000, 10000000000, 100000000000, 1000000000000, 10000000000000, 100000000000000, 1000000000000000, 10000000000000000, 100000000000000000, 1000000000000000000, 10000000000000000000] := by decide +kernel
  unfold Rows.laid_internal_strconv_uint64pow10 Lib.tabData
  rw [h]
  rfl

theorem lt_of_var {w : World} {n : String} {g : Nat} {cs : Array Value} (hg : Tryz.prog.globalNamed n = some g) (h : w.var? Tryz.prog n = some cs) : g < w.heap.size := by
  unfold World.var? at h
  simp only [hg, Option.bind_some] at h
  rcases Nat.lt_or_ge g w.heap.size with h' | h'
  · exact h'
  · simp [Array.getElem?_eq_none h'] at h

theorem gWrd : Tryz.prog.globalNamed "lingua/syntax.words" = some 0 := by kernel_rfl
theorem gWrdType : (Tryz.prog.globals[0]?).map (·.type) = some 78 := by kernel_rfl
theorem cellsSl : Tryz.prog.cellsOf 22 = 1 := by kernel_rfl
theorem cellsWrd : Tryz.prog.cellsOf 78 = 6 := by kernel_rfl
/-- A slice of strings that reads as these ones. -/
theorem tx_of_trod {W : World} {fuel : Nat} {x : Value} {q : List MemPlace} {T : List Lx.S} (h : DataW.trod (fun _ => ()) Tryz.prog W 0 (fun _ => true) false fuel 22 [x] = some (.slice (T.map fun s => .lit (.string s)) [], q)) (hT : T ≠ []) : TxAt W x T := by
  rcases open_strings Tryz.underlying22 Tryz.underlying9 cellsStr h with ⟨_, hx⟩ | ⟨a, len, cap, ss, hcs, _, hl, _, hz, hx, hcell, _⟩
  · cases hx
  · rw [if_pos rfl] at hz
    obtain rfl : x = .slice (some a) len cap := List.singleton_inj.1 hcs
    have h1 := (Prod.mk.inj hx).1
    injection h1 with h1 h2
    have hd : ss.drop len = [] := by
      have := h2.symm
      simpa [strs] using this
    have hlen : len = cap := by
      have := List.drop_eq_nil_iff.1 hd
      omega
    subst hlen
    have ht : ss.take len = ss := List.take_of_length_le (by omega)
    rw [ht] at h1
    have hss : ss.map (·.data.toList) = T := by
      have h3 := congrArg (List.map fun d => match d with | DataW.lit (.string s) => s | _ => []) h1
      simpa [strs, Function.comp_def] using h3.symm
    have hn : ss.length = T.length := by rw [← hss]; simp
    have h0 : 0 < ss.length := by rw [hn]; exact List.length_pos_iff.2 hT
    obtain ⟨blk, off, sp⟩ := a
    obtain rfl : sp = none := by
      have := hcell 0 h0
      exact cell_spot this
    have hlT : len = T.length := by omega
    subst hlT
    refine ⟨_, _, rfl, ⟨Nat.le_refl _, fun e => by cases e⟩, fun k z hk => ⟨blk, off, rfl, ?_⟩⟩
    have hkl : k < ss.length := by rw [hn]; exact (List.getElem?_eq_some_iff.1 hk).1
    have := hcell k hkl
    rw [Lib.add_plain] at this
    rw [this]
    have hz : (ss.getD k ByteArray.empty).data.toList = z := by
      rw [← hss, List.getElem?_map, List.getElem?_eq_getElem hkl] at hk
      simp at hk
      simp [List.getD, List.getElem?_eq_getElem hkl, hk]
    rw [← hz, bs_of]
theorem cell_of_var {w : World} {cs : Array Value} (h : w.var? Tryz.prog "lingua/syntax.words" = some cs) {k : Nat} {x : Value} (hk : cs[k]? = some x) : w.cell? ⟨0, k, none⟩ = some x := by
  rw [World.var?_cell gWrd h k]; exact hk
theorem words_of {W : World} (h : Lib.VarReads Tryz.prog W "lingua/syntax.words" Rows.laid_lingua_syntax_words) (k : Nat) (T : List Lx.S) (hk : rowsW[k]? = some T) : ∃ x, W.cell? ⟨0, k, none⟩ = some x ∧ TxAt W x T := by
  obtain ⟨g, t, cs, fuel, p, h1, h2, h3, h4⟩ := h
  obtain rfl : g = 0 := Option.some.inj (h1.symm.trans gWrd)
  obtain rfl : t = 78 := Option.some.inj (h2.symm.trans gWrdType)
  have hk6 : k < 6 := (List.getElem?_eq_some_iff.1 hk).1
  obtain ⟨f, d, q, h5, h6⟩ := Lib.array_elem Tryz.underlying78 h4 k hk6
  rw [cellsSl, Nat.mul_one] at h6
  have h7 : d = .slice (T.map fun s => .lit (.string s)) [] ∧ T ≠ [] := by
    match k, hk6, hk, h5 with
    | 0, _, hk, h5 => cases hk; cases h5; exact ⟨rfl, by decide⟩
    | 1, _, hk, h5 => cases hk; cases h5; exact ⟨rfl, by decide⟩
    | 2, _, hk, h5 => cases hk; cases h5; exact ⟨rfl, by decide⟩
    | 3, _, hk, h5 => cases hk; cases h5; exact ⟨rfl, by decide⟩
    | 4, _, hk, h5 => cases hk; cases h5; exact ⟨rfl, by decide⟩
    | 5, _, hk, h5 => cases hk; cases h5; exact ⟨rfl, by decide⟩
  obtain ⟨rfl, hT⟩ := h7
  obtain ⟨x, hx⟩ : ∃ x, (cs.toList.drop k).take 1 = [x] := by
    cases hd : (cs.toList.drop k).take 1 with
    | nil => rw [hd] at h6; exact absurd h6 (by cases f <;> simp [DataW.trod, Tryz.underlying22])
    | cons x l =>
      have : l = [] := by
        have := congrArg List.length hd
        simp at this
        exact List.eq_nil_of_length_eq_zero (by omega)
      subst this
      exact ⟨x, rfl⟩
  rw [hx] at h6
  refine ⟨x, cell_of_var h3 ?_, tx_of_trod h6 hT⟩
  have h8 := congrArg (·[0]?) hx
  simpa [List.getElem?_take, List.getElem?_drop] using h8

theorem env_of_laid {W : World} (h : laidMetH Tryz.prog laidList W) : Env W := by
  rw [MakeChecks.laidMetH_plain _ _ _ (by kernel_rfl)] at h
  have h : laidMet Tryz.prog [("math/bits.deBruijn32tab", Rows.laid_math_bits_deBruijn32tab), ("math/bits.deBruijn64tab", Rows.laid_math_bits_deBruijn64tab), ("internal/strconv.uint64pow10", Rows.laid_internal_strconv_uint64pow10), ("strconv.ErrRange", Rows.laid_strconv_ErrRange), ("strconv.ErrSyntax", Rows.laid_strconv_ErrSyntax), ("lingua/syntax.words", Rows.laid_lingua_syntax_words)] W := h
  have hw := words_of (Lib.laidMet.reads h (.tail _ (.tail _ (.tail _ (.tail _ (.tail _ (.head _)))))))
  have ht := h.tail.tail
  rw [tabEq] at ht
  have htab := Lib.tabIs_of_head gTab gTabType Tryz.underlying108 Tryz.underlying96 cellsU cellsTab ht
  obtain ⟨a1, _, hv1, _⟩ := laid_sentinel ht.tail gRng gRngType Tryz.underlying74 rowErr Tryz.underlying120 Tryz.underlying122 rfl rfl Tryz.underlying9 cellsErr cellsStr
  obtain ⟨a2, _, hv2, _⟩ := laid_sentinel ht.tail.tail gSyn gSynType Tryz.underlying74 rowErr Tryz.underlying120 Tryz.underlying122 rfl rfl Tryz.underlying9 cellsErr cellsStr
  refine ⟨htab, ⟨_, _, hv2⟩, ⟨_, _, hv1⟩, ?_, hw⟩
  have h1 := lt_of_var gTab htab
  have h2 := lt_of_var gSyn hv2
  have h3 := lt_of_var gRng hv1
  unfold G0
  omega
end Go.Proofs.YtlefgffnjcmfoaaGreatDoor

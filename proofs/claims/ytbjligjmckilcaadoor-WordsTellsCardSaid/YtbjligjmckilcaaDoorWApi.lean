/- What the walks of layer 10 ask of package words. -/
import Derived.Test.YtbjligjmckilcaaDoorWq6
namespace Go.Proofs.YtbjligjmckilcaaDoor
open Go.RowKit Go.Maps Go.ChangeMaps Go.MapKept
open Wd

/-- What a function leaves that makes a text. -/
def Text (w : World) (s : S) (e : Ending) (w' : World) : Prop := e = .returned (.string (bs s)) ∧ Below w.heap.size w w'
/-- Few texts, and short ones. -/
def Fit (l : List S) : Prop := l.length ≤ 20 ∧ ∀ x ∈ l, x.length ≤ 400
instance (l : List S) : Decidable (Fit l) := by unfold Fit; infer_instance
theorem few_fit {l : List S} (h : few l 20 = true) : Fit l := by
  have q := of_decide_eq_true h
  exact ⟨by omega, fun x hx => by have := q.2 x hx; omega⟩
/-- The contracts of package words; E: what the library's variables hold. -/
structure WApi (E : World → Prop) : Prop where
  keep : ∀ {w w' : World}, E w → Below w.heap.size w w' → E w'
  words_ : ∀ {w : World} {s : S}, E w → s.length ≤ 1000 → Calls Tryd.prog 10 #[.string (bs s)] w (Texts w (words s))
  parts_ : ∀ {w : World} {s : S} {a b : Int}, E w → s.length ≤ 500 → I64 a → I64 b → Calls Tryd.prog 12 #[.string (bs s), .int .i64 a, .int .i64 b] w (Texts w (parts s a b))
  line_ : ∀ {w : World} {s : S} {m : Int}, E w → s.length ≤ 500 → I64 m → Calls Tryd.prog 14 #[.string (bs s), .int .i64 m] w (Text w (line s m))
  find_ : ∀ {w : World} {v : Value} {l : List S} {s : S}, E w → TxAt w v l → Fit l → s.length ≤ 1000 → Calls Tryd.prog 17 #[v, .string (bs s)] w (Ints w (find l s))
  digest_ : ∀ {w : World} {v : Value} {l : List S}, E w → TxAt w v l → Fit l → Calls Tryd.prog 19 #[v] w (Text w (digest l))
theorem same_yes {w : World} {v u : Value} {l : List S} (hv : TxAt w v l) (hu : TxAt w u l) (hx : l.length ≤ 100000) : Calls Tryd.prog 9 #[v, u] w fun e w' => e = .returned (.bool true) ∧ Below w.heap.size w w' := by
  have := q_same hv hu hx; rwa [decide_eq_true rfl] at this
theorem ints_yes {w : World} {v u : Value} {l : List Int} (hv : NumsAt w v l) (hu : NumsAt w u l) (hx : l.length ≤ 100000) : Calls Tryd.prog 16 #[v, u] w fun e w' => e = .returned (.bool true) ∧ Below w.heap.size w w' := by
  have := q_ints hv hu hx; rwa [decide_eq_true rfl] at this
end Go.Proofs.YtbjligjmckilcaaDoor

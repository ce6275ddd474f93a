/- From the parts of a disk to the whole: what a call leaves. -/
import Derived.Test.YtjbcgahdiolhhaaDoorDHard
namespace Go.Proofs.YtjbcgahdiolhhaaDoor.D2
open Go.RowKit Go.Maps Go.ChangeMaps Go.MapKept
open Dp

theorem Hp.own {w w' : World} (h : Hp w w') {base : Nat} {e : TypeId} {size n : Nat} {v : Value} {xs : List Value} (o : w.ownsRow base e size v n xs) : w'.ownsRow base e size v n xs :=
  ownsRow_block o fun k _ => by rw [h.heap]
theorem set_other {w : World} {a : Addr} {v : Value} {k : Nat} (h : k ≠ a.block) : (w.setCell a v).heap[k]? = w.heap[k]? := Below.heap_setCell w a v k h

section
variable {w w1 w' : World} {lab : Nat → Nat} {id b : Nat} {D : Dk} {mk : List (Nat × Nat)} {L : Loc}

/-- A slice has grown, and its header has been stored. -/
theorem kept_row {row : Option Nat} {p i c1 c2 : Nat} {v' : Value} {e : TypeId} {size n : Nat} {xs : List Value} (g : w.grownBy w1 row) (hrow : ∀ k, row = some k → lab k = c2) (o : w1.ownsRow 0 e size v' n xs)
    (hp : Hp (w1.setCell ⟨p, i, none⟩ v') w') (hlp : lab p = c1) (hid : id ≤ c2 ∧ c2 < id + 64) :
    Kept w w' lab (relab lab w v' c2) id c1 c2 where
  os := hp.os.trans g.os
  tape := hp.tape.trans g.tape
  output := hp.output.trans g.output
  size := by rw [hp.heap, set_size]; exact g.size
  labs x hx := by simp [relab, hx]
  block x hx h1 h2 := by
    rw [hp.heap, set_other (fun h => h1 (by rw [h]; exact hlp))]
    exact g.block x hx (fun h => h2 (hrow x h.symm))
  fresh x hx := by
    unfold relab
    rw [if_neg (by omega)]
    split
    · rename_i h
      exact .inr ⟨hid.1, hid.2, by rw [hp.heap, set_size]; exact (o.lt x h).2⟩
    · exact .inl rfl
/-- The labels of the slice that has grown. -/
theorem relab_own {row : Option Nat} {c2 : Nat} {v' : Value} (g : ∀ k, row = some k → k < w.heap.size) (hrow : ∀ k, row = some k → lab k = c2)
    (hloc : v'.ownBlock = row ∨ ∀ k, v'.ownBlock = some k → w.heap.size ≤ k) : ∀ k, v'.ownBlock = some k → relab lab w v' c2 k = c2 := by
  intro k hk
  unfold relab
  rcases hloc with h | h
  · have h1 : row = some k := h.symm.trans hk
    rw [if_pos (g k h1)]; exact hrow k h1
  · have := h k hk
    rw [if_neg (by omega), if_pos hk]
theorem own_set {p i : Nat} {v' v : Value} {e : TypeId} {size n : Nat} {xs : List Value} (o : w1.ownsRow 0 e size v n xs) (hne : v.ownBlock ≠ some p) (hp : Hp (w1.setCell ⟨p, i, none⟩ v') w') : w'.ownsRow 0 e size v n xs :=
  hp.own (ownsRow_block o fun k hk => set_other (fun h => hne (by rw [hk]; exact congrArg some h)))

theorem DiskIn.setDur (h : DiskIn w lab id b D mk L) {f : Nat} (hf : f < 16) {v' : Value} {r : List UInt8} (hr : r.length ≤ 16777216) (g : w.grownBy w1 (L.dv f).ownBlock) (o : w1.ownsRow 0 5 1 v' r.length (byteVs r))
    (hloc : v'.ownBlock = (L.dv f).ownBlock ∨ ∀ k, v'.ownBlock = some k → w.heap.size ≤ k) (hp : Hp (w1.setCell ⟨L.g f, 1, none⟩ v') w') :
    DiskIn w' (relab lab w v' (id + 37 + f)) id b { D with dur := upd D.dur f r } mk { L with dv := upd L.dv f v' } ∧ Chg id lab (relab lab w v' (id + 37 + f)) w w' := by
  have hgl := lt_heap (h.file f hf)
  have hgn : (L.dv f).ownBlock ≠ some (L.g f) := fun e => by have h1 := h.ld f hf _ e; have h2 := h.lg f hf; omega
  have hvn : v'.ownBlock ≠ some (L.g f) := fun e => by
    rcases hloc with q | q
    · exact hgn (q.symm.trans e)
    · have := q _ e; omega
  have k := kept_row (id := id) g (h.ld f hf) o hp (h.lg f hf) (by omega)
  have ho := own_set o hvn hp
  have hfile : w'.heap[L.g f]? = some (.cells #[L.nv f, v'] 67 (0, 0)) := by
    have e1 : w1.heap[L.g f]? = some (.cells #[L.nv f, L.dv f] 67 (0, 0)) := (g.block _ hgl (fun e => hgn e.symm)).trans (h.file f hf)
    rw [hp.heap, set_heap e1]; rfl
  refine ⟨h.turn k ⟨h.ok.now, fun i => ?_, h.ok.pend, h.ok.few, h.ok.lost, h.ok.calls, h.ok.keep, h.ok.size⟩ rfl rfl rfl rfl (.inl ⟨by omega, by omega, rfl, rfl, rfl, rfl, rfl⟩) (by omega) (.inl ⟨by omega, by omega, rfl⟩) (.inl ⟨by omega, by omega, rfl, rfl⟩) (.inl ⟨by omega, by omega, rfl, rfl⟩) (fun i hi => ?_) (fun i hi => .inl ⟨by omega, by omega, rfl, rfl⟩) (fun i hi => ?_), k.chg (by omega) (by omega)⟩
  · by_cases hi : i = f
    · subst hi; simp only [upd_same]; exact hr
    · simp only [upd_other _ _ hi]; exact h.ok.dur i
  · by_cases he : i = f
    · subst he; simp only [upd_same]; exact .inr hfile
    · exact .inl ⟨by omega, by omega, rfl, upd_other _ _ he⟩
  · by_cases he : i = f
    · subst he; simp only [upd_same]; exact .inr ⟨ho, relab_own (fun j hj => ((h.dur i hf).lt j hj).2) (h.ld i hf) hloc⟩
    · exact .inl ⟨by omega, by omega, upd_other _ _ he, upd_other _ _ he⟩

theorem DiskIn.setNow (h : DiskIn w lab id b D mk L) {f : Nat} (hf : f < 16) {v' : Value} {r : List UInt8} (hr : r.length ≤ 16777216) (g : w.grownBy w1 (L.nv f).ownBlock) (o : w1.ownsRow 0 5 1 v' r.length (byteVs r))
    (hloc : v'.ownBlock = (L.nv f).ownBlock ∨ ∀ k, v'.ownBlock = some k → w.heap.size ≤ k) (hp : Hp (w1.setCell ⟨L.g f, 0, none⟩ v') w') :
    DiskIn w' (relab lab w v' (id + 21 + f)) id b { D with now := upd D.now f r } mk { L with nv := upd L.nv f v' } ∧ Chg id lab (relab lab w v' (id + 21 + f)) w w' := by
  have hgl := lt_heap (h.file f hf)
  have hgn : (L.nv f).ownBlock ≠ some (L.g f) := fun e => by have h1 := h.ln f hf _ e; have h2 := h.lg f hf; omega
  have hvn : v'.ownBlock ≠ some (L.g f) := fun e => by
    rcases hloc with q | q
    · exact hgn (q.symm.trans e)
    · have := q _ e; omega
  have k := kept_row (id := id) g (h.ln f hf) o hp (h.lg f hf) (by omega)
  have ho := own_set o hvn hp
  have hfile : w'.heap[L.g f]? = some (.cells #[v', L.dv f] 67 (0, 0)) := by
    have e1 : w1.heap[L.g f]? = some (.cells #[L.nv f, L.dv f] 67 (0, 0)) := (g.block _ hgl (fun e => hgn e.symm)).trans (h.file f hf)
    rw [hp.heap, set_heap e1]; rfl
  refine ⟨h.turn k ⟨fun i => ?_, h.ok.dur, h.ok.pend, h.ok.few, h.ok.lost, h.ok.calls, h.ok.keep, h.ok.size⟩ rfl rfl rfl rfl (.inl ⟨by omega, by omega, rfl, rfl, rfl, rfl, rfl⟩) (by omega) (.inl ⟨by omega, by omega, rfl⟩) (.inl ⟨by omega, by omega, rfl, rfl⟩) (.inl ⟨by omega, by omega, rfl, rfl⟩) (fun i hi => ?_) (fun i hi => ?_) (fun i hi => .inl ⟨by omega, by omega, rfl, rfl⟩), k.chg (by omega) (by omega)⟩
  · by_cases hi : i = f
    · subst hi; simp only [upd_same]; exact hr
    · simp only [upd_other _ _ hi]; exact h.ok.now i
  · by_cases he : i = f
    · subst he; simp only [upd_same]; exact .inr hfile
    · exact .inl ⟨by omega, by omega, upd_other _ _ he, rfl⟩
  · by_cases he : i = f
    · subst he; simp only [upd_same]; exact .inr ⟨ho, relab_own (fun j hj => ((h.now i hf).lt j hj).2) (h.ln i hf) hloc⟩
    · exact .inl ⟨by omega, by omega, upd_other _ _ he, upd_other _ _ he⟩

theorem DiskIn.setPend (h : DiskIn w lab id b D mk L) {v' : Value} {ps : List (Nat × Nat)} (hn : ps.Nodup) (hf : ∀ p ∈ ps, p.1 < 16 ∧ p.2 < 262144) (g : w.grownBy w1 L.pv.ownBlock) (o : w1.ownsRow 0 78 2 v' ps.length (secVs ps))
    (hloc : v'.ownBlock = L.pv.ownBlock ∨ ∀ k, v'.ownBlock = some k → w.heap.size ≤ k) (hp : Hp (w1.setCell ⟨b, 1, none⟩ v') w') :
    DiskIn w' (relab lab w v' (id + 3)) id b { D with pend := ps } mk { L with pv := v' } ∧ Chg id lab (relab lab w v' (id + 3)) w w' := by
  have hgl := h.blt
  have hgn : L.pv.ownBlock ≠ some b := fun e => by have h1 := h.lp _ e; have h2 := h.lb; omega
  have hvn : v'.ownBlock ≠ some b := fun e => by
    rcases hloc with q | q
    · exact hgn (q.symm.trans e)
    · have := q _ e; omega
  have k := kept_row (id := id) g h.lp o hp h.lb (by omega)
  have ho := own_set o hvn hp
  refine ⟨h.turn k ⟨h.ok.now, h.ok.dur, hn, hf, h.ok.lost, h.ok.calls, h.ok.keep, h.ok.size⟩ rfl rfl rfl rfl (.inr ?_) (by omega) (.inl ⟨by omega, by omega, rfl⟩) (.inr ⟨ho, relab_own (fun j hj => (h.pend.lt j hj).2) h.lp hloc⟩) (.inl ⟨by omega, by omega, rfl, rfl⟩) (fun i hi => .inl ⟨by omega, by omega, rfl, rfl⟩) (fun i hi => .inl ⟨by omega, by omega, rfl, rfl⟩) (fun i hi => .inl ⟨by omega, by omega, rfl, rfl⟩), k.chg (by omega) (by omega)⟩
  have e1 := (g.block _ hgl (fun e => hgn e.symm)).trans h.blk
  rw [hp.heap, set_heap e1]; rfl

theorem DiskIn.setKeep (h : DiskIn w lab id b D mk L) {v' : Value} {ks : List Int} (hk : ∀ z ∈ ks, I64 z) (hs : (ks.length : Int) ≤ 140737488355327) (g : w.grownBy w1 L.kv.ownBlock) (o : w1.ownsRow 0 3 1 v' ks.length (intVs ks))
    (hloc : v'.ownBlock = L.kv.ownBlock ∨ ∀ k, v'.ownBlock = some k → w.heap.size ≤ k) (hp : Hp (w1.setCell ⟨b, 6, none⟩ v') w') :
    DiskIn w' (relab lab w v' (id + 4)) id b { D with keep := ks } mk { L with kv := v' } ∧ Chg id lab (relab lab w v' (id + 4)) w w' := by
  have hgl := h.blt
  have hgn : L.kv.ownBlock ≠ some b := fun e => by have h1 := h.lk _ e; have h2 := h.lb; omega
  have hvn : v'.ownBlock ≠ some b := fun e => by
    rcases hloc with q | q
    · exact hgn (q.symm.trans e)
    · have := q _ e; omega
  have k := kept_row (id := id) g h.lk o hp h.lb (by omega)
  have ho := own_set o hvn hp
  refine ⟨h.turn k ⟨h.ok.now, h.ok.dur, h.ok.pend, h.ok.few, h.ok.lost, h.ok.calls, hk, hs⟩ rfl rfl rfl rfl (.inr ?_) (by omega) (.inl ⟨by omega, by omega, rfl⟩) (.inl ⟨by omega, by omega, rfl, rfl⟩) (.inr ⟨ho, relab_own (fun j hj => (h.keep.lt j hj).2) h.lk hloc⟩) (fun i hi => .inl ⟨by omega, by omega, rfl, rfl⟩) (fun i hi => .inl ⟨by omega, by omega, rfl, rfl⟩) (fun i hi => .inl ⟨by omega, by omega, rfl, rfl⟩), k.chg (by omega) (by omega)⟩
  have e1 := (g.block _ hgl (fun e => hgn e.symm)).trans h.blk
  rw [hp.heap, set_heap e1]; rfl

/-- A field of the disk itself is stored. -/
theorem kept_set {p i : Nat} {v : Value} {c : Nat} (lo : LabOk lab w) (hlp : lab p = c) (hp : Hp (w.setCell ⟨p, i, none⟩ v) w') : Kept w w' lab lab id c c where
  os := hp.os
  tape := hp.tape
  output := hp.output
  size := by rw [hp.heap, set_size]; exact Nat.le_refl _
  labs x _ := rfl
  block x hx h1 _ := by rw [hp.heap, set_other (fun h => h1 (by rw [h]; exact hlp))]
  fresh x hx := .inl (lo x hx)
theorem DiskIn.setField (h : DiskIn w lab id b D mk L) {D' : Dk} {i : Nat} {v : Value} (hp : Hp (w.setCell ⟨b, i, none⟩ v) w') (ok : D'.Ok) (hn : D'.now = D.now) (hd : D'.dur = D.dur) (hpe : D'.pend = D.pend) (hk : D'.keep = D.keep)
    (hc : (#[.map (some L.fm), L.pv, .map (some L.mm), .bool D.down, .int .i64 (D.lost : Int), .int .i64 (D.calls : Int), L.kv] : Array Value).setIfInBounds i v = #[.map (some L.fm), L.pv, .map (some L.mm), .bool D'.down, .int .i64 (D'.lost : Int), .int .i64 (D'.calls : Int), L.kv]) :
    DiskIn w' lab id b D' mk L ∧ Chg id lab lab w w' := by
  have k := kept_set (id := id) h.lo h.lb hp
  have h6 := h.id64
  refine ⟨h.turn k ok rfl rfl rfl rfl (.inr ?_) (by omega) (.inl ⟨by omega, by omega, rfl⟩) (.inl ⟨by omega, by omega, rfl, hpe⟩) (.inl ⟨by omega, by omega, rfl, hk⟩) (fun i hi => .inl ⟨by omega, by omega, rfl, rfl⟩) (fun i hi => .inl ⟨by omega, by omega, rfl, by rw [hn]⟩) (fun i hi => .inl ⟨by omega, by omega, rfl, by rw [hd]⟩), k.chg (by omega) (by omega)⟩
  rw [hp.heap, set_heap h.blk, hc]

/-- The set of marked sectors is written. -/
theorem DiskIn.setMarks (h : DiskIn w lab id b D mk L) {mk' : List (Nat × Nat)} (g : w.grownBy w1 (some L.mm)) (hp : Hp w1 w') (m : MapIs Tryd.prog w1 78 L.mm mk'.length (markMap mk')) :
    DiskIn w' lab id b D mk' L ∧ Chg id lab lab w w' := by
  have k : Kept w w' lab lab id (id + 2) (id + 2) := {
    os := hp.os.trans g.os
    tape := hp.tape.trans g.tape
    output := hp.output.trans g.output
    size := by rw [hp.heap]; exact g.size
    labs := fun _ _ => rfl
    block := fun x hx h1 _ => by rw [hp.heap]; exact g.block x hx (fun e => h1 (by cases e; exact h.lm))
    fresh := fun x hx => .inl (h.lo x hx) }
  exact ⟨h.turn k h.ok rfl rfl rfl rfl (.inl ⟨by omega, by omega, rfl, rfl, rfl, rfl, rfl⟩) (by omega) (.inr (m.block (by rw [hp.heap]))) (.inl ⟨by omega, by omega, rfl, rfl⟩) (.inl ⟨by omega, by omega, rfl, rfl⟩) (fun i hi => .inl ⟨by omega, by omega, rfl, rfl⟩) (fun i hi => .inl ⟨by omega, by omega, rfl, rfl⟩) (fun i hi => .inl ⟨by omega, by omega, rfl, rfl⟩), k.chg (by omega) (by omega)⟩

theorem upd_self {α : Type} (g : Nat → α) (f : Nat) : upd g f (g f) = g := by funext i; unfold upd; split <;> simp_all
end

/-- harden, of a disk. -/
def HardenPost (lab : Nat → Nat) (id b : Nat) (D' : Dk) (mk : List (Nat × Nat)) (L : Loc) (w : World) (e : Ending) (w' : World) : Prop :=
  e = .returned (.tuple #[]) ∧ ∃ lab' dv, DiskIn w' lab' id b D' mk { L with dv := dv } ∧ Chg id lab lab' w w'

theorem sec_length (s : List UInt8) (n : Nat) : (sec s n).length = min 64 (s.length - 64 * n) := by simp [sec]

theorem harden_any {w : World} {lab : Nat → Nat} {id b : Nat} {D : Dk} {mk : List (Nat × Nat)} {L : Loc} (h : DiskIn w lab id b D mk L) {f n : Nat} (hf : f < 16) (hn : 64 * n < (D.now f).length) :
    Calls Tryd.prog 41 #[.pointer (some ⟨L.g f, 0, none⟩), .int .i64 (n : Int)] w (HardenPost lab id b (D.harden (f, n)) mk L w) := by
  obtain ⟨gn, cap, hv, hcap⟩ : ∃ gn cap, L.nv f = .slice (some ⟨gn, 0, none⟩) (D.now f).length cap ∧ (D.now f).length ≤ cap := by
    rcases (h.now f hf).2 with ⟨_, h0⟩ | ⟨g, cap, cur, hv, _, _, hc, _⟩
    · omega
    · exact ⟨g, cap, hv, hc⟩
  have hon := h.now f hf
  rw [hv] at hon
  have hnb : (L.nv f).ownBlock = some gn := by rw [hv]; rfl
  have c0 := h.fc hf 0
  have c1 := h.fc hf 1
  simp only [List.getElem?_toArray, List.getElem?_cons_zero, List.getElem?_cons_succ] at c0 c1
  rw [hv] at c0
  refine (harden_low (L.g f) gn cap (L.dv f) (D.now f) (D.dur f) n _ w c0 c1 (h.ffz hf 1) hon (h.dur f hf) hn (h.ok.now f) (h.ok.dur f) (fun e => ?_) (fun e => ?_) hcap rfl).mono ?_
  · have h1 := h.ld f hf _ e; have h2 := h.ln f hf _ hnb; omega
  · have h1 := h.ld f hf _ e; have h2 := h.lg f hf; omega
  · rintro e w' ⟨rfl, v', w1, o, g, hl, hp⟩
    have hr : (putL (D.dur f) (64 * n) (sec (D.now f) n)).length ≤ 16777216 := by
      rw [putL_length, sec_length]; have := h.ok.dur f; have := h.ok.now f; omega
    have := h.setDur hf hr g o hl hp
    exact ⟨rfl, _, _, this.1, this.2⟩
end Go.Proofs.YtjbcgahdiolhhaaDoor.D2

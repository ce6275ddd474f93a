/- Several texts in one: JTornP, JBytes. -/
import Derived.Test.YtjbcgahdiolhhaaDoorME
namespace Go.Proofs.YtjbcgahdiolhhaaDoor.D2
open Dp Jp

theorem forms_le : ∀ l : List (List UInt8), (∀ r ∈ l, r.length ≤ 200) → (forms l).length ≤ 260 * l.length
  | [], _ => by rw [forms_nil]; simp
  | r :: l, h => by
    have h1 := forms_le l fun x hx => h x (List.mem_cons_of_mem _ hx)
    have h2 := h r (by simp)
    have h3 := form_len r (by omega)
    rw [forms_cons, List.length_append, List.length_cons]
    omega
/-- Where the forms end. -/
def endAt (ts : List (List UInt8)) (i : Nat) : Nat := (forms (ts.take (i + 1))).length
def ends (ts : List (List UInt8)) (k : Nat) : List Int := (List.range k).map fun i => (endAt ts i : Int)
theorem ends_length (ts : List (List UInt8)) (k : Nat) : (ends ts k).length = k := by simp [ends]
theorem ends_succ (ts : List (List UInt8)) (k : Nat) : ends ts (k + 1) = ends ts k ++ [(endAt ts k : Int)] := by simp [ends, List.range_succ]
theorem ends_get (ts : List (List UInt8)) {i k : Nat} (h : i < k) : (ends ts k)[i]? = some (endAt ts i : Int) := by simp [ends, h]
theorem endAt_le {ts : List (List UInt8)} (h8 : ts.length ≤ 8) (hs : ∀ r ∈ ts, r.length ≤ 200) (i : Nat) : endAt ts i ≤ 2080 := by
  unfold endAt
  have h1 := forms_le (ts.take (i + 1)) fun r hr => hs r (List.mem_of_mem_take hr)
  have h2 := List.length_take_le (i + 1) ts
  have h3 := List.length_take_le' (i + 1) ts
  omega
theorem endAt_all {ts : List (List UInt8)} (i : Nat) : endAt ts i ≤ (forms ts).length := by
  unfold endAt
  exact (forms_pre (List.take_prefix _ _)).length_le
/-- So many records are appended. -/
structure Tor (ts : List (List UInt8)) (k : Nat) (D : Dk) : Prop where
  good : Good D
  quiet : Quiet D
  now : D.now 0 = forms (ts.take k)
  oth : D.now 1 = []
theorem Tor.size {ts : List (List UInt8)} {k : Nat} {D : Dk} (h : Tor ts k D) : D.size 0 = (forms (ts.take k)).length := by
  have i0 : isFile 0 = true := isFile_nat (f := 0) (by decide)
  unfold Dk.size
  rw [i0, if_pos rfl]
  show (D.now 0).length = _
  rw [h.now]
theorem Tor.start {D : Dk} (g : Good D) (q : Quiet D) (s : Still D 0 (forms [])) (ho : D.now 1 = []) (ts : List (List UInt8)) : Tor ts 0 D := ⟨g, q, by rw [s.now, List.take_zero], ho⟩
theorem Tor.next {ts : List (List UInt8)} {k : Nat} {D : Dk} {x : List UInt8} (h : Tor ts k D) (h8 : ts.length ≤ 8) (hs : ∀ r ∈ ts, r.length ≤ 200) (hx : ts[k]? = some x) :
    ∃ D', jappend D ⟨0, ts.take k, false⟩ x = (0, D', ⟨0, ts.take (k + 1), false⟩) ∧ Tor ts (k + 1) D' := by
  have hl := hs x (List.mem_of_getElem? hx)
  have h1 := forms_le (ts.take k) fun r hr => hs r (List.mem_of_mem_take hr)
  have h2 := List.length_take_le' k ts
  have h3 := form_len x (by omega)
  have ht : ts.take (k + 1) = ts.take k ++ [x] := by rw [List.take_add_one, hx]; rfl
  obtain ⟨D', a1, a2, a3, a4, a5, _⟩ := append_quiet h.good h.quiet (J := ⟨0, ts.take k, false⟩) (f := 0) (by decide) rfl rfl h.now (s := x) (by omega) (by show (forms (ts.take k)).length + _ ≤ _; omega)
  refine ⟨D', ?_, a3, a2, ?_, ?_⟩
  · rw [a1, ht]
  · rw [a4, ht]
  · rw [a5 1 (by decide)]; exact h.oth
theorem Tor.read {ts : List (List UInt8)} {k : Nat} {D : Dk} (h : Tor ts k D) : D.read 0 0 ((forms (ts.take k)).length : Int) = (forms (ts.take k), 0) := by
  have i0 : isFile 0 = true := isFile_nat (f := 0) (by decide)
  have h0 : D.now (0 : Int).toNat = _ := h.now
  have := read_all (f := 0) (n := ((forms (ts.take k)).length : Int)) h.quiet.up i0 (by rw [h0]; omega)
  rwa [h0] at this

/-! ### What is left of the bytes -/
def Part (s B : List UInt8) : Prop := B.length = s.length ∧ ∀ i, B.getD i 0 = s.getD i 0 ∨ B.getD i 0 = 0
theorem Part.refl (s : List UInt8) : Part s s := ⟨rfl, fun _ => .inl rfl⟩
theorem Part.zero {s B : List UInt8} (h : Part s B) (k : Nat) : Part s (B.set k 0) := by
  refine ⟨by rw [List.length_set]; exact h.1, fun i => ?_⟩
  rw [List.getD_eq_getElem?_getD, List.getElem?_set]
  split
  · right
    split <;> rfl
  · have := h.2 i
    simpa only [List.getD_eq_getElem?_getD] using this
theorem Part.tear {s B : List UInt8} (h : Part s B) (m : Nat) : Tear s (B.take m) := by
  refine tear_of s (B.take m) (by have := List.length_take_le' m B; have := h.1; omega) fun i => ?_
  by_cases hi : i < m
  · have := h.2 i
    rw [List.getD_eq_getElem?_getD, List.getElem?_take_of_lt hi, ← List.getD_eq_getElem?_getD]
    exact this
  · right
    rw [List.getD_eq_getElem?_getD, List.getElem?_eq_none (by have := List.length_take_le m B; omega)]
    rfl
/-- How many records are whole. -/
structure Whole (ts : List (List UInt8)) (t : List UInt8) (m : Nat) : Prop where
  le : m ≤ ts.length
  recs : recs t = ts.take m
  on : ∀ k, k < m → endAt ts k ≤ t.length ∧ t.take (endAt ts k) = (forms ts).take (endAt ts k)
  off : m < ts.length → endAt ts m ≤ t.length → t.take (endAt ts m) ≠ (forms ts).take (endAt ts m)
theorem take_pre {s t : List UInt8} (h : s <+: t) : t.take s.length = s := (List.prefix_iff_eq_take.1 h).symm
theorem whole_of {ts : List (List UInt8)} {t : List UInt8} (hs : ∀ r ∈ ts, r.length ≤ 200) (h : Tear (forms ts) t) : ∃ m, Whole ts t m := by
  obtain ⟨m, h1, h2, h3, h4⟩ := tear_recs ts t (fun r hr => by have := hs r hr; omega) h
  refine ⟨m, h1, h2, fun k hk => ?_, fun hm he e => ?_⟩
  · have p1 := (forms_take_pre ts (a := k + 1) (b := m) (by omega)).trans h3
    have p2 : forms (ts.take (k + 1)) <+: forms ts := forms_pre (List.take_prefix _ _)
    exact ⟨p1.length_le, (take_pre p1).trans (take_pre p2).symm⟩
  · have p2 : forms (ts.take (m + 1)) <+: forms ts := forms_pre (List.take_prefix _ _)
    refine h4 hm ?_
    have e2 : t.take (endAt ts m) = forms (ts.take (m + 1)) := e.trans (take_pre p2)
    rw [← e2]
    exact List.take_prefix _ _
/-- What follows. -/
theorem torn_plain {ts : List (List UInt8)} {D : Dk} {t : List UInt8} {m : Nat} (h : Tor ts ts.length D) (h8 : ts.length ≤ 8) (hs : ∀ r ∈ ts, r.length ≤ 200) (ht : t.length ≤ 2080) (hw : Whole ts t m) :
    ∃ D1 D2 D3, D.write 1 0 t = (0, D1) ∧ jopen D1 1 = (some (ts.take m), 0, D2) ∧ jappend D2 ⟨1, ts.take m, false⟩ [110, 101, 120, 116] = (0, D3, ⟨1, ts.take m ++ [[110, 101, 120, 116]], false⟩) ∧
      jappend D3 ⟨1, ts.take m ++ [[110, 101, 120, 116]], false⟩ (List.replicate 20001 0) = (3, D3, ⟨1, ts.take m ++ [[110, 101, 120, 116]], false⟩) := by
  obtain ⟨D1, a1, a2, a3, a4, _, _⟩ := write_quiet h.good h.quiet (f := 1) (a := 0) (by decide) (s := t) (by omega)
  rw [h.oth, putN_nil] at a4
  obtain ⟨D2, b1, b2, b3, b4, _⟩ := open_quiet a3 a2 (f := 1) (by decide)
  rw [a4, hw.recs] at b1 b4
  have h1 := forms_le (ts.take m) fun r hr => hs r (List.mem_of_mem_take hr)
  have h2 := List.length_take_le' m ts
  have h3 := form_len [110, 101, 120, 116] (by decide)
  have h4 : ([110, 101, 120, 116] : List UInt8).length = 4 := rfl
  obtain ⟨D3, c1, _⟩ := append_quiet b3 b2 (J := ⟨1, ts.take m, false⟩) (f := 1) (by decide) rfl rfl b4.now (s := [110, 101, 120, 116]) (by decide) (by show (forms (ts.take m)).length + _ ≤ _; omega)
  refine ⟨D1, D2, D3, a1, b1, c1, ?_⟩
  unfold jappend
  rw [if_neg (by simp), if_pos (by rw [List.length_replicate]; decide)]
end Go.Proofs.YtjbcgahdiolhhaaDoor.D2
namespace Go.Proofs.YtjbcgahdiolhhaaDoor.D2
open Go.RowKit Go.Maps Go.ChangeMaps Go.MapKept
open Dp Jp
attribute [local go_sem ↓] Go.wp_at_zero Go.wp_at_succ
/-- The bytes l, at the beginning of block g, which may be written. -/
def BRow (w : World) (g cap : Nat) (l : List UInt8) : Prop :=
  ∃ cur fz, w.heap[g]? = some (.cells cur 5 fz) ∧ (fz = (0, 0) ∨ cur.size ≤ fz.1) ∧ l.length ≤ cap ∧ cap ≤ maxLen ∧ cur.size = cap ∧ cur.toList.take l.length = byteVs l
section
variable {w : World} {g cap : Nat} {l : List UInt8}
theorem BRow.lt (h : BRow w g cap l) : g < w.heap.size := by obtain ⟨_, _, h, _⟩ := h; exact lt_heap h
theorem BRow.le (h : BRow w g cap l) : l.length ≤ cap := by obtain ⟨_, _, _, _, h, _⟩ := h; exact h
theorem BRow.block {w' : World} (h : BRow w g cap l) (hb : w'.heap[g]? = w.heap[g]?) : BRow w' g cap l := by obtain ⟨cur, fz, h1, h2⟩ := h; exact ⟨cur, fz, hb.trans h1, h2⟩
theorem BRow.cell (h : BRow w g cap l) {j : Nat} {b : UInt8} (hj : l[j]? = some b) : w.cell? ⟨g, j, none⟩ = some (.int .u8 (b.toNat : Int)) := by
  obtain ⟨cur, fz, h1, _, h3, _, h5, h6⟩ := h
  obtain ⟨hlt, rfl⟩ := List.getElem?_eq_some_iff.1 hj
  have e : (cur.toList.take l.length)[j]? = (byteVs l)[j]? := by rw [h6]
  rw [List.getElem?_take_of_lt hlt] at e
  rw [Lib.cell_of_heap h1, ← Array.getElem?_toList, e]
  simp [byteVs, hlt]
theorem brow_fz {cur : Array Value} {t : TypeId} {fz : Nat × Nat} (h1 : w.heap[g]? = some (.cells cur t fz)) (h2 : fz = (0, 0) ∨ cur.size ≤ fz.1) {j : Nat} (hj : j < cur.size) : w.frozen? ⟨g, j, none⟩ = false := by
  obtain ⟨lo, hi⟩ := fz
  rcases h2 with h2 | h2
  · simp only [Prod.mk.injEq] at h2
    simp [World.frozen?, h1, h2]
  · simp only at h2
    simp [World.frozen?, h1]
    omega
theorem BRow.fz (h : BRow w g cap l) {j : Nat} (hj : j < l.length) : w.frozen? ⟨g, j, none⟩ = false := by
  obtain ⟨cur, fz, h1, h2, h3, _, h5, _⟩ := h
  exact brow_fz h1 h2 (by omega)
theorem BRow.set (h : BRow w g cap l) {j : Nat} (b : UInt8) : BRow (w.setCell ⟨g, j, none⟩ (.int .u8 (b.toNat : Int))) g cap (l.set j b) := by
  obtain ⟨cur, fz, h1, h2, h3, h4, h5, h6⟩ := h
  refine ⟨cur.setIfInBounds j (.int .u8 (b.toNat : Int)), fz, ?_, ?_, by simpa using h3, h4, by simpa using h5, ?_⟩
  · simp [World.setCell, Array.getElem?_modify, h1]
  · simpa using h2
  · rw [Array.toList_setIfInBounds, List.length_set, List.take_set, h6]
    simp [byteVs, List.map_set]

/-- []byte(s). -/
theorem conv_brow (w : World) (s : List UInt8) (hs : s.length ≤ 16777216) : ∃ wc cap, (convert 9 58 (.string (bs s))).run Tryd.prog w = .ok (.slice (some ⟨w.heap.size, 0, none⟩) s.length cap) wc ∧ BRow wc w.heap.size cap s ∧ Below w.heap.size w wc := by
  have hr := run_bytes_of_string w 9 58 5 (bs s) Tryd.underlying9 Tryd.underlying58 Tryd.underlying5
  have hge := grownCap_ge w s.length 0 5
  have hcm : grownCap w s.length 0 5 ≤ maxLen := grownCap_le_maxLen w s.length 0 5 (by unfold maxLen; omega)
  rw [bs_size] at hr
  have hsz : (bytesRow (bs s) (grownCap w s.length 0 5)).size = grownCap w s.length 0 5 := by
    have := bs_size s
    simp only [bytesRow, Array.size_append, Array.size_map, Array.size_replicate, this]
    have h2 : (bs s).data.size = s.length := this
    omega
  refine ⟨_, _, hr, ⟨_, _, heap_alloc_new w.drew _, .inr (Nat.le_refl _), hge, hcm, hsz, ?_⟩, ((Below.refl _ _).drew).alloc (Nat.le_refl _) _⟩
  have e1 : (bytesRow (bs s) (grownCap w s.length 0 5)).toList = byteVs s ++ List.replicate (grownCap w s.length 0 5 - (bs s).size) (.int .u8 0) := by simp [bytesRow, bs, byteVs]
  rw [e1, ← byteVs_length s]
  exact List.take_left
theorem brow_string (h : BRow w g cap l) (c : Nat) : (convert 58 9 (.slice (some ⟨g, 0, none⟩) l.length c)).run Tryd.prog w = .ok (.string (bs l)) w :=
  run_convert_bytes_back w 58 9 5 ⟨g, 0, none⟩ c l Tryd.underlying58 Tryd.underlying5 Tryd.underlying9 (fun j hj => by
    rw [Lib.add_plain, Nat.zero_add]; exact h.cell (List.getElem?_eq_getElem hj))
theorem brow_part (h : BRow w g cap l) {m : Nat} (hm : m ≤ l.length) (c : Nat) : (convert 58 9 (.slice (some ⟨g, 0, none⟩) m c)).run Tryd.prog w = .ok (.string (bs (l.take m))) w := by
  have hl : (l.take m).length = m := by rw [List.length_take]; omega
  have := run_convert_bytes_back w 58 9 5 ⟨g, 0, none⟩ c (l.take m) Tryd.underlying58 Tryd.underlying5 Tryd.underlying9 (fun j hj => by
    have hj2 : j < m := by rw [hl] at hj; exact hj
    rw [Lib.add_plain, Nat.zero_add, List.getElem_take]; exact h.cell (List.getElem?_eq_getElem (by omega)))
  rwa [hl] at this
/-- make([]byte, n), and its string. -/
theorem make_zeros (w : World) (n : Nat) (hn : n ≤ 16777216) : ∃ w', (Instr.makeSlice 58 (.int .i64 (n : Int)) (.int .i64 (n : Int))).run Tryd.prog w = .ok (.slice (some ⟨w.heap.size, 0, none⟩) n n) w' ∧ Below w.heap.size w w' ∧
    (convert 58 9 (.slice (some ⟨w.heap.size, 0, none⟩) n n)).run Tryd.prog w' = .ok (.string (bs (List.replicate n 0))) w' := by
  obtain ⟨i0, hi, hz0, hz1, hz2⟩ := info_parts byte_info
  have hr := run_makeSlice (P := Tryd.prog) w 58 5 i0 (.int .u8 0) Tryd.underlying58 hi hz0 .i64 .i64 (n : Int) (n : Int) (by omega) (Int.le_refl _) (by rw [hz1]; omega) (by rw [hz2]; omega) (by omega)
  simp only [Int.toNat_natCast, hz1, Nat.mul_one] at hr
  refine ⟨_, hr, (Below.refl _ _).alloc (Nat.le_refl _) _, ?_⟩
  have := run_convert_bytes_back (w.alloc (.cells (madeCells (Value.int IntKind.u8 0).cells n) 5)) 58 9 5 ⟨w.heap.size, 0, none⟩ n (List.replicate n 0) Tryd.underlying58 Tryd.underlying5 Tryd.underlying9 (fun j hj => by
    rw [List.length_replicate] at hj
    rw [Lib.add_plain, Nat.zero_add, Lib.cell_of_heap (heap_alloc_new w _), List.getElem_replicate, ← Array.getElem?_toList]
    show (madeCells #[Value.int IntKind.u8 0] n).toList[j]? = _
    rw [toList_madeCells_one]
    simp [hj])
  rwa [List.length_replicate] at this
end
end Go.Proofs.YtjbcgahdiolhhaaDoor.D2

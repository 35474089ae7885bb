/-
  A string's bytes and one more; a write torn by a cut.
  Conditions: none.
-/
import Derived.Test.YtpnphmfpandmkaaDkS
import Derived.Lib.ConvBytes
namespace Go.Proofs.Ytpnphmfpandmkaa.Dk
open Go.RowKit Go.ChangeShapes Go.WideShapes Go.ChangeAt Go.Joins Go.Maps By Ct
set_option linter.unusedVariables false
set_option linter.unusedSimpArgs false

/-- a name's bytes, as numbers. -/
def nb (x : List UInt8) : List Nat := x.map UInt8.toNat
theorem nb_len (x : List UInt8) : (nb x).length = x.length := by simp [nb]
theorem nb_byte (x : List UInt8) : ∀ y ∈ nb x, y < 256 := by
  intro y hy
  obtain ⟨b, _, rfl⟩ := List.mem_map.1 hy
  exact b.toNat_lt
theorem bs8_nb (x : List UInt8) : bs8 (nb x) = st x := by
  unfold bs8 nb st
  congr 2
  rw [List.map_map]
  have : (UInt8.ofNat ∘ UInt8.toNat) = id := by funext b; simp
  rw [this, List.map_id]
theorem conv_str (w : World) (s : ByteArray) : (convert 9 29 (.string s)).run Try.prog w = .ok (.slice (some ⟨w.heap.size, 0, none⟩) s.size (grownCap w s.size 0 5)) (Lib.bytesWorld w 5 s) :=
  Lib.run_convert_string_bytes w 9 29 5 s Try.underlying9 Try.underlying29 Try.underlying5
theorem conv_below (w : World) (s : ByteArray) : Below w.heap.size w (Lib.bytesWorld w 5 s) :=
  ⟨rfl, rfl, rfl, by rw [Lib.bytesWorld_size]; omega, fun j hj => Lib.bytesWorld_at_old w _ s j hj⟩
/-- a block of bytes with room behind them. -/
def Cw (w : World) (g cap : Nat) (l : List Nat) : Prop :=
  l.length ≤ cap ∧ cap ≤ maxLen ∧ g < w.heap.size ∧ (∀ i, i < l.length → w.cell? ⟨g, i, none⟩ = some (.int .u8 (l.getD i 0 : Nat))) ∧ ∀ i, i < cap → (w.cell? ⟨g, i, none⟩).isSome = true ∧ w.frozen? ⟨g, i, none⟩ = false
theorem Cw.keep {w w' : World} {g cap : Nat} {l : List Nat} (h : Cw w g cap l) (e : w'.heap[g]? = w.heap[g]?) (hs : w.heap.size ≤ w'.heap.size) : Cw w' g cap l :=
  ⟨h.1, h.2.1, Nat.lt_of_lt_of_le h.2.2.1 hs, fun i hi => (World.cell?_of_block (a := ⟨g, i, none⟩) e).trans (h.2.2.2.1 i hi),
    fun i hi => ⟨by rw [World.cell?_of_block (a := ⟨g, i, none⟩) e]; exact (h.2.2.2.2 i hi).1, (World.frozen?_of_block (a := ⟨g, i, none⟩) e).trans (h.2.2.2.2 i hi).2⟩⟩
theorem cw_conv (w : World) (x : List UInt8) (hx : x.length ≤ maxLen) : Cw (Lib.bytesWorld w 5 (st x)) w.heap.size (grownCap w (st x).size 0 5) (nb x) := by
  have hs : (st x).size = x.length := by show x.toArray.size = _; simp
  have hd : (st x).data.toList = x := rfl
  have hg := grownCap_ge w (st x).size 0 5
  have hz : (Lib.bytesCells w 5 (st x)).size = grownCap w (st x).size 0 5 := by
    unfold Lib.bytesCells
    rw [Array.size_append, Array.size_map, Array.size_replicate]
    show (st x).size + _ = _
    omega
  refine ⟨by rw [nb_len, ← hs]; exact hg, grownCap_le_maxLen _ _ _ _ (by rw [hs]; exact hx), by rw [Lib.bytesWorld_size]; omega, fun i hi => ?_, fun i hi => ⟨?_, ?_⟩⟩
  · rw [nb_len] at hi
    rw [Lib.bytesWorld_cell w _ _ i (by rw [hs]; exact hi), hd]
    simp [nb, List.getD_eq_getElem?_getD, hi]
  · simp only [World.cell?, Lib.bytesWorld_at_new]
    rw [Array.getElem?_eq_getElem (by rw [hz]; exact hi)]
    rfl
  · simp only [World.frozen?, Lib.bytesWorld_at_new]
    rw [hz]
    simp
    omega
theorem sl_cells {w : World} {b cap : Nat} {l : List Nat} (h8 : ∀ x ∈ l, x < 256) (hc : l.length ≤ cap) (hm : cap ≤ maxLen) (hn : l.length ≤ 140737488351232) (hb : b < w.heap.size) (h : ∀ i, i < l.length → w.cell? ⟨b, i, none⟩ = some (.int .u8 (l.getD i 0 : Nat))) :
    Sl w (.slice (some ⟨b, 0, none⟩) l.length cap) l :=
  ⟨hn, h8, _, cap, rfl, hc, (by unfold maxLen at hm; omega), getD_byte h8, fun _ => ⟨b, 0, rfl, hb, getD_byte h8, fun i hi => by rw [Nat.zero_add]; exact h i hi⟩, fun e => by cases e⟩
theorem app1 {w : World} {g cap : Nat} {l : List Nat} (h : Cw w g cap l) (h8 : ∀ x ∈ l, x < 256) {b y : Nat} (hy : y < 256) (hb : w.cell? ⟨b, 0, none⟩ = some (.int .u8 (y : Nat))) (hn : l.length + 1 ≤ 140737488355328) (ty : TypeId) :
    ∃ v' w', (Builtin.append_ #[29, 29] ty #[.slice (some ⟨g, 0, none⟩) l.length cap, .slice (some ⟨b, 0, none⟩) 1 1]).run Try.prog w = .ok v' w' ∧ (∃ a c, v' = .slice a (l.length + 1) c) ∧ (l.length + 1 ≤ 140737488351232 → Sl w' v' (l ++ [y])) ∧ Tu (Td g) w w' ∧ ∀ z, v'.ownBlock = some z → z = g ∨ z = w.heap.size := by
  obtain ⟨i, hi, hz, hs, hby⟩ := info3 info_u8
  have h8' : ∀ x ∈ l ++ [y], x < 256 := by
    intro x hx
    rcases List.mem_append.1 hx with hx | hx
    · exact h8 x hx
    · rw [List.mem_singleton.1 hx]; exact hy
  have hlen : (l ++ [y]).length = l.length + 1 := by simp
  have gd : ∀ j, j < l.length → (l ++ [y]).getD j 0 = l.getD j 0 := fun j hj => by simp [List.getD_eq_getElem?_getD, List.getElem?_append_left hj]
  have gl : (l ++ [y]).getD l.length 0 = y := by simp [List.getD_eq_getElem?_getD]
  have src : Src Try.prog i.size 29 (.slice (some ⟨b, 0, none⟩) 1 1) 1 [.int .u8 (y : Nat)] w := Src.ofSlice w Try.underlying29 ⟨b, 0, none⟩ 1 1 _ (by rw [hs]; rfl)
    (by intro j u hj; cases j with | zero => (simp at hj; subst hj; simpa [Addr.add] using hb) | succ j => simp at hj) (fun u hu => by simp at hu; subst hu; rfl)
  by_cases room : l.length + 1 ≤ cap
  · have hc1 := h.2.2.2.2 l.length (by omega)
    refine ⟨_, _, run_append_room_src w 29 29 ty 5 i Try.underlying29 hi g 0 l.length cap _ 1 _ src room (fun j hj => ?_) (fun j hj => ?_), ⟨_, _, rfl⟩, fun hn => ?_, ?_, fun z hz => ?_⟩
    · have : j = 0 := by simpa using hj
      subst this
      rw [hs, Nat.mul_one, Nat.add_zero, Nat.zero_add]
      exact hc1.1
    · have : j = 0 := by simpa using hj
      subst this
      rw [hs, Nat.mul_one, Nat.add_zero, Nat.zero_add]
      exact hc1.2
    · rw [hs, Nat.mul_one, Nat.zero_add, World.setCells, World.setCells, ← hlen]
      refine sl_cells h8' (by rw [hlen]; exact room) h.2.1 (by rw [hlen]; exact hn) (by simpa [World.setCell] using h.2.2.1) (fun j hj => ?_)
      by_cases q : j = l.length
      · rw [q, gl]
        exact World.cell?_setCell_same' _ _ _ hc1.1
      · rw [gd j (by omega), World.cell?_setCell_other _ _ _ _ (fun e => q (by simpa using (congrArg Addr.off e).symm))]
        exact h.2.2.2.1 j (by omega)
    · exact tu_sets (X := Td g) rfl _ _ _
    · left
      simpa [Value.ownBlock] using hz.symm
  · have hold : (Builtin.firstCells i.size l.length (.slice (some ⟨g, 0, none⟩) l.length cap)).run Try.prog w.drew = .ok (cl l).toArray w.drew := run_firstCells_some w.drew i.size l.length ⟨g, 0, none⟩ l.length cap (cl l) (by rw [hs]; simp [cl]) (by
      intro j v hj
      have hj' : j < l.length := by have := (List.getElem?_eq_some_iff.1 hj).1; simpa [cl] using this
      have e : (cl l)[j]? = some (.int .u8 ((l.getD j 0 : Nat) : Int)) := by simp [cl, List.getD_eq_getElem?_getD, hj']
      rw [e] at hj
      cases hj
      have q := h.2.2.2.1 j hj'
      show w.drew.cell? ((⟨g, 0, none⟩ : Addr).add j) = _
      rw [add_plain, Nat.zero_add]
      exact q)
    have hcl : ((cl l) ++ [Value.int .u8 (y : Nat)]) = cl (l ++ [y]) := by simp [cl]
    refine ⟨_, _, run_append_grow_src w 29 29 ty 5 i _ Try.underlying29 hi hz (some ⟨g, 0, none⟩) l.length cap (cl l) hold _ 1 _ src (by omega) (by omega) (by rw [hby]; exact growslice_fits (by omega) (by omega)), ⟨_, _, rfl⟩, fun hn => ?_, ?_, fun z hz => ?_⟩
    · rw [hcl, ← hlen]
      refine sl_cells h8' (grownCap_ge w _ _ _) (grownCap_le_maxLen _ _ _ _ (by unfold maxLen; omega)) (by rw [hlen]; exact hn) (by simp) (fun j hj => ?_)
      have e : (cl (l ++ [y]))[j]? = some (.int .u8 (((l ++ [y]).getD j 0 : Nat) : Int)) := by
        unfold cl
        rw [List.getElem?_map, List.getElem?_eq_getElem hj, List.getD_eq_getElem?_getD, List.getElem?_eq_getElem hj]
        rfl
      have hs2 : w.heap.size = w.drew.heap.size := rfl
      simp only [World.cell?, hs2, heap_alloc_new]
      rw [Array.getElem?_append_left (by simpa [cl] using hj), List.getElem?_toArray, e]
      rfl
    · exact (tu_below (w := w) (balloc (brefl w).drew _))
    · right
      simpa [Value.ownBlock] using hz.symm
/-- the disk holds the names G, each with its own bytes and one more. -/
def Inv (s : Dk) (G : List (List UInt8)) : Prop := s.out = false ∧ s.left < 0 ∧ (∀ n ∈ G, okN n = true ∧ ∃ y, y < 256 ∧ get s.fs n = some (nb n ++ [y])) ∧ (G = [] → s.fs = [])
theorem chg_off {s : Dk} (h : s.left < 0) : chg s = s := by unfold chg; rw [if_pos h]
theorem inv_no {s : Dk} {G : List (List UInt8)} (h : Inv s G) {x : List UInt8} (hx : okN x = false) (l : List Nat) (k : Nat) : writeE s x k = 4 ∧ writeS s x l = s := by
  constructor
  · unfold writeE; rw [if_neg (by rw [h.1]; decide), if_pos hx]
  · unfold writeS; rw [if_neg (by rw [h.1]; decide), if_pos hx]
theorem inv_ok {s : Dk} {G : List (List UInt8)} (h : Inv s G) {x : List UInt8} (hx : okN x = true) {y : Nat} (hy : y < 256) : writeE s x (nb x ++ [y]).length = 0 ∧ Inv (writeS s x (nb x ++ [y])) (G ++ [x]) := by
  have hl : (nb x ++ [y]).length ≤ 65536 := by rw [List.length_append, nb_len]; have := (okN_le hx).2; simp; omega
  have e1 : ¬ s.out = true := by rw [h.1]; decide
  have e2 : ¬ okN x = false := by rw [hx]; decide
  refine ⟨by unfold writeE; rw [if_neg e1, if_neg e2, if_neg (by omega), chg_off h.2.1, if_neg e1], ?_⟩
  unfold writeS
  rw [if_neg e1, if_neg e2, if_neg (by omega), chg_off h.2.1, if_neg e1]
  refine ⟨h.1, h.2.1, fun n hn => ?_, fun e => by simp at e⟩
  by_cases q : n = x
  · rw [q]
    exact ⟨hx, y, hy, get_put_same _ _ _⟩
  · have hn' : n ∈ G := by
      rcases List.mem_append.1 hn with z | z
      · exact z
      · exact absurd (List.mem_singleton.1 z) q
    obtain ⟨a, y', b, c⟩ := h.2.2.1 n hn'
    exact ⟨a, y', b, (get_put_other _ q _).trans c⟩
theorem inv_read {s : Dk} {G : List (List UInt8)} (h : Inv s G) {x : List UInt8} (hx : x ∈ G) : okN x = true ∧ ∃ y, y < 256 ∧ readE s x = 0 ∧ readD s x = nb x ++ [y] := by
  obtain ⟨a, y, b, c⟩ := h.2.2.1 x hx
  refine ⟨a, y, b, ?_, ?_⟩
  · rw [rdE s x h.1 a, c]; rfl
  · rw [rdD s x h.1 a, c]; rfl
/-- the power goes out in the write of x; then it comes back. -/
theorem torn {s : Dk} {G : List (List UInt8)} (h : Inv s G) {x : List UInt8} (hx : x ∈ G) {l : List Nat} (hl : l.length ≤ 65536) (keep : Int) :
    writeE (cutS s 0 keep) x l.length = 50 ∧ (writeS (cutS s 0 keep) x l).out = true ∧ (restart (writeS (cutS s 0 keep) x l)).out = false ∧ (restart (writeS (cutS s 0 keep) x l)).left < 0 ∧
    (readE (restart (writeS (cutS s 0 keep) x l)) x = 0 ∧ readD (restart (writeS (cutS s 0 keep) x l)) x = if 0 ≤ keep then l.take keep.toNat else readD s x) ∧
    (∀ n ∈ G, n ≠ x → readE (restart (writeS (cutS s 0 keep) x l)) n = 0 ∧ readD (restart (writeS (cutS s 0 keep) x l)) n = readD s n) ∧ (restart (writeS (cutS s 0 keep) x l)).fs.length ≤ s.fs.length + 1 := by
  obtain ⟨ox, y, hy, gx⟩ := h.2.2.1 x hx
  have e0 : ¬ s.out = true := by rw [h.1]; decide
  have ec : cutS s 0 keep = { s with left := 0, keep := keep } := by unfold cutS; rw [if_neg (by omega), if_neg e0]
  have eg : chg { s with left := 0, keep := keep } = { s with left := -1, keep := keep, out := true } := by unfold chg; rw [if_neg (by show ¬ (0 : Int) < 0; omega)]; rfl
  have ew : writeS (cutS s 0 keep) x l = { s with left := -1, keep := keep, out := true, fs := if 0 ≤ keep then put s.fs x (l.take keep.toNat) else s.fs } := by
    rw [ec]
    unfold writeS
    rw [if_neg (by show ¬ s.out = true; exact e0), if_neg (by rw [ox]; decide), if_neg (by omega), eg, if_pos rfl]
    by_cases q : 0 ≤ keep
    · rw [if_pos q, if_pos q]
    · rw [if_neg q, if_neg q]
  have er : restart (writeS (cutS s 0 keep) x l) = { s with left := -1, keep := keep, out := false, fs := if 0 ≤ keep then put s.fs x (l.take keep.toNat) else s.fs } := by rw [ew]; rfl
  refine ⟨?_, by rw [ew], by rw [er], by rw [er]; show (-1 : Int) < 0; omega, ?_, fun n hn q => ?_, ?_⟩
  · rw [ec]
    unfold writeE
    rw [if_neg (by show ¬ s.out = true; exact e0), if_neg (by rw [ox]; decide), if_neg (by omega), eg, if_pos rfl]
  · rw [er, rdE _ x rfl ox, rdD _ x rfl ox, rdD s x h.1 ox]
    by_cases q : 0 ≤ keep
    · simp only [if_pos q, get_put_same]
      simp
    · simp only [if_neg q, gx]
      simp
  · obtain ⟨on, y', hy', gn⟩ := h.2.2.1 n hn
    have gg : get (if 0 ≤ keep then put s.fs x (l.take keep.toNat) else s.fs) n = get s.fs n := by
      by_cases z : 0 ≤ keep
      · rw [if_pos z, get_put_other _ q]
      · rw [if_neg z]
    rw [er, rdE _ n rfl on, rdD _ n rfl on, rdD s n h.1 on]
    simp only [gg, gn]
    simp
  · rw [er]
    show (if 0 ≤ keep then put s.fs x (l.take keep.toNat) else s.fs).length ≤ _
    by_cases q : 0 ≤ keep
    · rw [if_pos q]; exact put_len _ _ _
    · rw [if_neg q]; omega
theorem out_write {s : Dk} (h : s.out = true) (x : List UInt8) (l : List Nat) (k : Nat) : writeE s x k = 50 ∧ writeS s x l = s := by
  constructor
  · unfold writeE; rw [if_pos h]
  · unfold writeS; rw [if_pos h]
theorem out_names {s : Dk} (h : s.out = true) : names s = [] := by unfold names; rw [if_pos h]
theorem inv_names {s : Dk} (h : Inv s []) : names s = [] := by unfold names; rw [if_neg (by rw [h.1]; decide), h.2.2.2 rfl]; simp
theorem free_write {s : Dk} (h : s.out = false) (hl : s.left < 0) {x : List UInt8} (hx : okN x = true) {k : Nat} (hk : k ≤ 65536) : writeE s x k = 0 := by
  unfold writeE
  rw [if_neg (by rw [h]; decide), if_neg (by rw [hx]; decide), if_neg (by omega), chg_off hl, if_neg (by rw [h]; decide)]
theorem len_writeS (s : Dk) (x : List UInt8) (l : List Nat) : (writeS s x l).fs.length ≤ s.fs.length + 1 := len_write s x l
theorem inv_new : Inv new [] := ⟨rfl, by decide, fun n hn => (by cases hn), fun _ => rfl⟩
end Go.Proofs.Ytpnphmfpandmkaa.Dk

/-
  An array of bytes in memory, at any place of a block, read and stored whole; the contract of aes' plus.
  Conditions: none.
-/
import Derived.Test.YtfefkakdhaecpaaAeE
namespace Go.Proofs.Ytfefkakdhaecpaa.Ae
open Go.RowKit By
set_option linter.unusedVariables false
set_option linter.unusedSimpArgs false

/-- an array of n bytes in block b from place o on, that may be written. -/
def Ay (w : World) (b o n : Nat) (g : Nat → Nat) : Prop :=
  b < w.heap.size ∧ (∀ i, i < n → g i < 256) ∧ ∀ i, i < n → w.cell? ⟨b, o + i, none⟩ = some (.int .u8 (g i)) ∧ w.frozen? ⟨b, o + i, none⟩ = false
theorem Ay.belowB {B : Nat} {w w' : World} {b o n : Nat} {g : Nat → Nat} (h : Ay w b o n g) (hb : b < B) (k : Below B w w') : Ay w' b o n g :=
  ⟨Nat.lt_of_lt_of_le h.1 k.size, h.2.1, fun i hi => ⟨(k.cell (p := ⟨b, o + i, none⟩) hb).trans (h.2.2 i hi).1, (k.frozen (p := ⟨b, o + i, none⟩) hb).trans (h.2.2 i hi).2⟩⟩
theorem Ay.below {w w' : World} {b o n : Nat} {g : Nat → Nat} (h : Ay w b o n g) (k : Below w.heap.size w w') : Ay w' b o n g := h.belowB h.1 k
theorem Ay.at {w : World} {b n : Nat} {g : Nat → Nat} (h : Ay w b 0 n g) {i : Nat} (hi : i < n) : w.cell? ⟨b, i, none⟩ = some (.int .u8 (g i)) ∧ w.frozen? ⟨b, i, none⟩ = false := by
  have := h.2.2 i hi
  rwa [Nat.zero_add] at this
def up (g : Nat → Nat) (k v : Nat) : Nat → Nat := fun i => if i = k then v else g i
theorem Ay.set {w : World} {b o n : Nat} {g : Nat → Nat} (h : Ay w b o n g) (k v : Nat) (hk : k < n) (hv : v < 256) : Ay (w.setCell ⟨b, o + k, none⟩ (.int .u8 v)) b o n (up g k v) := by
  refine ⟨by simpa [World.setCell] using h.1, fun i hi => ?_, fun i hi => ?_⟩
  · unfold up; split
    · exact hv
    · exact h.2.1 i hi
  · refine ⟨?_, by rw [World.frozen?_setCell]; exact (h.2.2 i hi).2⟩
    unfold up
    by_cases e : i = k
    · subst e
      rw [World.cell?_setCell_same _ _ _ (h.2.2 i hi).1, if_pos rfl]
    · rw [World.cell?_setCell_other _ _ _ _ (fun q => e (by simp at q <;> omega)), if_neg e]
      exact (h.2.2 i hi).1
theorem Ay.set0 {w : World} {b n : Nat} {g : Nat → Nat} (h : Ay w b 0 n g) (k v : Nat) (hk : k < n) (hv : v < 256) : Ay (w.setCell ⟨b, k, none⟩ (.int .u8 v)) b 0 n (up g k v) := by
  have := h.set k v hk hv
  rwa [Nat.zero_add] at this
theorem Ay.eq {w : World} {b o n : Nat} {g g' : Nat → Nat} (h : Ay w b o n g) (e : ∀ i, i < n → g i = g' i) : Ay w b o n g' :=
  ⟨h.1, fun i hi => by rw [← e i hi]; exact h.2.1 i hi, fun i hi => by rw [← e i hi]; exact h.2.2 i hi⟩
/-- bytes as cells. -/
def ac (g : Nat → Nat) (n : Nat) : List Value := (List.range n).map fun i => .int .u8 ((g i : Nat) : Int)
theorem ac_len (g : Nat → Nat) (n : Nat) : (ac g n).length = n := by simp [ac]
theorem ac_get {g : Nat → Nat} {n j : Nat} (h : j < n) : (ac g n)[j]? = some (.int .u8 ((g j : Nat) : Int)) := by simp [ac, h]
theorem ac_eq {g g' : Nat → Nat} {n : Nat} (e : ∀ i, i < n → g i = g' i) : ac g n = ac g' n := by
  unfold ac
  refine List.map_congr_left fun i hi => ?_
  rw [e i (List.mem_range.1 hi)]
theorem ac_one (g : Nat → Nat) (n : Nat) : (ac g n).toArray.all (·.oneCell') = true := by
  refine all_oneCell_toArray fun v hv => ?_
  simp only [ac, List.mem_map] at hv
  obtain ⟨i, _, rfl⟩ := hv
  rfl
theorem ac_size (g : Nat → Nat) (n : Nat) : (ac g n).toArray.size = n := by simp [ac]
theorem Ay.range {w : World} {b o n : Nat} {g : Nat → Nat} (h : Ay w b o n g) : w.rangeAt b o (ac g n) := by
  intro j v hj
  have hj' : j < n := by have := (List.getElem?_eq_some_iff.1 hj).1; rwa [ac_len] at this
  rw [ac_get hj'] at hj
  rw [← hj]
  exact (h.2.2 j hj').1
theorem Ay.there {w : World} {b o n : Nat} {g : Nat → Nat} (h : Ay w b o n g) : w.there b o n := by
  intro j hj
  rw [(h.2.2 j hj).1]
  exact ⟨rfl, (h.2.2 j hj).2⟩
theorem belowCells {B : Nat} {w0 : World} (b : Nat) (hb : B ≤ b) : ∀ (vs : List Value) (o : Nat) (w : World), Below B w0 w → Below B w0 (w.setCells b o vs)
  | [], _, _, h => h
  | v :: r, o, w, h => by
    rw [World.setCells]
    exact belowCells b hb r (o + 1) _ (h.setCell hb v)
theorem Ay.mk_cells {w : World} {b o n : Nat} {g : Nat → Nat} (hb : b < w.heap.size) (ht : w.there b o n) (hg : ∀ i, i < n → g i < 256) : Ay (w.setCells b o (ac g n)) b o n g := by
  have hl := ac_len g n
  have hr := World.rangeAt_setCells_same w b o (ac g n) (by rw [hl]; exact ht)
  have hh := World.there_setCells ht b o (ac g n)
  refine ⟨Nat.lt_of_lt_of_le hb (belowCells (B := 0) b (Nat.zero_le _) (ac g n) o w (Below.refl _ _)).size, hg, fun i hi => ⟨?_, ?_⟩⟩
  · exact hr i _ (ac_get hi)
  · exact (hh i hi).2
/-- another array is as it was. -/
theorem Ay.apart {w : World} {b o n : Nat} {g : Nat → Nat} (h : Ay w b o n g) (b' o' : Nat) (vs : List Value) (hap : b ≠ b' ∨ o + n ≤ o' ∨ o' + vs.length ≤ o) : Ay (w.setCells b' o' vs) b o n g := by
  have hr := World.rangeAt_setCells_apart h.range b' o' vs (by rw [ac_len]; exact hap)
  have hh := World.there_setCells h.there b' o' vs
  refine ⟨Nat.lt_of_lt_of_le h.1 (belowCells (B := 0) b' (Nat.zero_le _) vs o' w (Below.refl _ _)).size, h.2.1, fun i hi => ⟨?_, ?_⟩⟩
  · exact hr i _ (ac_get hi)
  · exact (hh i hi).2
theorem Ay.other {w : World} {b o n : Nat} {g : Nat → Nat} (h : Ay w b o n g) {b' : Nat} (hb : b ≠ b') (i : Nat) (v : Value) : Ay (w.setCell ⟨b', i, none⟩ v) b o n g := by
  have := h.apart b' i [v] (.inl hb)
  simpa [World.setCells] using this
theorem run_store_ac {P : Program} {w : World} {b o n : Nat} (ht : w.there b o n) (g : Nat → Nat) : (storeCells ⟨b, o, none⟩ (ac g n)).run P w = .ok () (w.setCells b o (ac g n)) := by
  have h := run_storeCells_cells (P := P) b o (ac g n) 0 w (fun j hj => by simpa using (ht j (by rwa [ac_len] at hj)).1) (fun j hj => by simpa using (ht j (by rwa [ac_len] at hj)).2)
    (fun v hv => (Array.all_eq_true_iff_forall_mem.1 (ac_one g n)) v (by simpa using hv))
  simpa using h
theorem results_cell_mid {P : Program} {fn : Func} {p : Tmp} {ty : TypeId} (h : fn.results = #[.cell p ty]) (tmps : Array Value) (w : World) (b : Nat) (cs : List Value) (d : TypeDesc)
    (hp : tmps.getD p undef = .pointer (some ⟨b, 0, none⟩)) (hc : w.rangeAt b 0 cs)
    (hu : P.underlying ty = some d) (hd : d.isRow = true) (hi : (P.info? ty).map (·.size) = some cs.length) :
    (results fn tmps).run P w = .ok (.agg cs.toArray) w := by
  have hp' : tmps[p]?.getD undef = .pointer (some ⟨b, 0, none⟩) := by simpa using hp
  simp [results, h, hp', asAddr, run_loadVar_mid w b 0 ty cs d hc hu hd hi]
theorem Ay.newC (w : World) (n : Nat) (g : Nat → Nat) (ty : TypeId) (hg : ∀ i, i < n → g i < 256) : Ay (w.alloc (.cells (ac g n).toArray ty)) w.heap.size 0 n g := by
  refine ⟨by simp, hg, fun i hi => ⟨?_, by simp [go_sem]⟩⟩
  rw [World.cell?_alloc_mark w _ _ (0, 0) _]
  simpa using ac_get hi
theorem Ay.new0 (w : World) (n : Nat) (ty : TypeId) : Ay (w.alloc (.cells (Array.replicate n (.int .u8 0)) ty)) w.heap.size 0 n (fun _ => 0) := by
  refine ⟨by simp, fun _ _ => by simp, fun i hi => ⟨?_, by simp [go_sem]⟩⟩
  rw [World.cell?_alloc_mark w _ _ (0, 0) _]
  simp [hi]
theorem sz_alloc (w : World) (o : Obj) : (w.alloc o).heap.size = w.heap.size + 1 := by simp
theorem info_blk : (Try.prog.info? 38).map (·.size) = some 16 := by kernel_rfl

set_option maxRecDepth 100000 in
set_option maxHeartbeats 2000000 in
theorem plus_c (f g : Nat → Nat) (w : World) (hf : ∀ i, i < 16 → f i < 256) (hg : ∀ i, i < 16 → g i < 256) :
    Calls Try.prog 21 #[.agg (ac f 16).toArray, .agg (ac g 16).toArray] w fun e w' => e = .returned (.agg (ac (xr f g) 16).toArray) ∧ Below w.heap.size w w' := by
  have WS := Lib.hid (balloc (balloc (balloc (brefl w) (.cells (ac f 16).toArray 38)) (.cells (ac g 16).toArray 38)) (.cells #[.int .u8 0, .int .u8 0, .int .u8 0, .int .u8 0, .int .u8 0, .int .u8 0, .int .u8 0, .int .u8 0, .int .u8 0, .int .u8 0, .int .u8 0, .int .u8 0, .int .u8 0, .int .u8 0, .int .u8 0, .int .u8 0] 38))
  have A0 := Lib.hid (((Ay.newC w 16 f 38 hf).below (balloc (brefl _) (.cells (ac g 16).toArray 38))).below (balloc (brefl _) (.cells #[.int .u8 0, .int .u8 0, .int .u8 0, .int .u8 0, .int .u8 0, .int .u8 0, .int .u8 0, .int .u8 0, .int .u8 0, .int .u8 0, .int .u8 0, .int .u8 0, .int .u8 0, .int .u8 0, .int .u8 0, .int .u8 0] 38)))
  have B0 := Lib.hid ((Ay.newC (w.alloc (.cells (ac f 16).toArray 38)) 16 g 38 hg).below (balloc (brefl _) (.cells #[.int .u8 0, .int .u8 0, .int .u8 0, .int .u8 0, .int .u8 0, .int .u8 0, .int .u8 0, .int .u8 0, .int .u8 0, .int .u8 0, .int .u8 0, .int .u8 0, .int .u8 0, .int .u8 0, .int .u8 0, .int .u8 0] 38)))
  have R0 := Lib.hid (Ay.new0 ((w.alloc (.cells (ac f 16).toArray 38)).alloc (.cells (ac g 16).toArray 38)) 16 38)
  rw [sz_alloc] at B0
  rw [sz_alloc, sz_alloc] at R0
  replace R0 : Hid (Ay (((w.alloc (.cells (ac f 16).toArray 38)).alloc (.cells (ac g 16).toArray 38)).alloc (.cells #[.int .u8 0, .int .u8 0, .int .u8 0, .int .u8 0, .int .u8 0, .int .u8 0, .int .u8 0, .int .u8 0, .int .u8 0, .int .u8 0, .int .u8 0, .int .u8 0, .int .u8 0, .int .u8 0, .int .u8 0, .int .u8 0] 38)) (w.heap.size + 1 + 1) 0 16 (fun _ => 0)) := R0
  have HF := Lib.hid hf
  have HG := Lib.hid hg
  clear hf hg
  go_enter Try.func21, Try.ntmps21
  go_wp2_with fail
  generalize (((w.alloc (.cells (ac f 16).toArray 38)).alloc (.cells (ac g 16).toArray 38)).alloc (.cells #[.int .u8 0, .int .u8 0, .int .u8 0, .int .u8 0, .int .u8 0, .int .u8 0, .int .u8 0, .int .u8 0, .int .u8 0, .int .u8 0, .int .u8 0, .int .u8 0, .int .u8 0, .int .u8 0, .int .u8 0, .int .u8 0] 38)) = W0 at *
  go_loopw [6] (fun i wr => ∃ k : Nat, k ≤ 16 ∧ i = .int .i64 k ∧ Ay wr w.heap.size 0 16 (fun i => if i < k then xr f g i else f i) ∧ Ay wr (w.heap.size + 1) 0 16 g ∧ Ay wr (w.heap.size + 1 + 1) 0 16 (fun _ => 0) ∧ Below w.heap.size W0 wr) (fun i _ => 16 - (intOf i).toNat)
  case atStart => exact ⟨0, by omega, rfl, A0.out.eq (by simp), B0.out, R0.out, Below.refl _ _⟩
  case round =>
    obtain ⟨k, hk, rfl, ar, br, rr, hb⟩ := hrel
    rename World => wr
    have AR := Lib.hid ar
    have BR := Lib.hid br
    have RR := Lib.hid rr
    have BB := Lib.hid hb
    clear ar br rr hb
    by_cases c : k < 16
    · have e0 : decide ((k : Int) < 16) = true := by rw [decide_eq_true_iff]; omega
      obtain ⟨a1, a2⟩ := AR.out.at c
      obtain ⟨b1, b2⟩ := BR.out.at c
      simp only [Nat.lt_irrefl, if_false] at a1
      have XO := xor8 (f k) (g k) (HF.out k c) (HG.out k c)
      have VL := lt_xor8 (HF.out k c) (HG.out k c)
      have ST := Lib.hid (AR.out.set0 k (f k ^^^ g k) c VL)
      have XE : Hid (xr f g k = f k ^^^ g k) := rfl
      have f1 := HF.out k c
      have g1 := HG.out k c
      generalize f k ^^^ g k = z at *
      generalize f k = x at *
      generalize g k = y at *
      have k0 : (0 : Int) ≤ (k : Int) := by omega
      have k1 : (k : Int) < 16 := by omega
      go_wp2_with fail
      go_region
      go_wp2_with fail
      go_roundw
      case rel => exact ⟨k + 1, by omega, by go_num, (ST.out.below (bdrew1 _ _)).eq (fun i hi => by unfold up; by_cases e : i = k <;> by_cases e' : i < k <;> simp [e, e', XE.out] <;> omega), ((BR.out.other (by omega) k _).below (bdrew1 _ _)), ((RR.out.other (by omega) k _).below (bdrew1 _ _)), (BB.out.setCell (Nat.le_refl _) _).trans (bdrew1 _ _)⟩
      case measure => simp [intOf]; omega
    · have e0 : decide ((k : Int) < 16) = false := by rw [decide_eq_false_iff_not]; omega
      obtain rfl : k = 16 := by omega
      have AW := Lib.hid (AR.out.eq (g' := xr f g) (fun i hi => by simp [hi]))
      have VL : ∀ i, i < 16 → xr f g i < 256 := AW.out.2.1
      have FI := Lib.hid (Ay.mk_cells (g := xr f g) RR.out.1 RR.out.there VL)
      have FB := Lib.hid (belowCells (B := w.heap.size) (w.heap.size + 1 + 1) (by omega) (ac (xr f g) 16) 0 wr (WS.out.trans BB.out))
      have SE := run_store_ac (P := Try.prog) RR.out.there (xr f g)
      go_wp2_with (refine wpList_load_mid rfl 38 _ rfl _ 0 rfl (ac (xr f g) 16) _ AW.out.range Try.underlying38 rfl (by rw [ac_len]; exact info_blk) ?_)
      refine bodyPost_ret (v := .agg (ac (xr f g) 16).toArray) (results_cell_mid rfl _ _ (w.heap.size + 1 + 1) _ _ rfl FI.out.range Try.underlying38 rfl (by rw [ac_len]; exact info_blk)) rfl ⟨rfl, FB.out⟩
end Go.Proofs.Ytfefkakdhaecpaa.Ae

/-
  A block enciphered, in numbers; the contract of aes' encipher.
  Conditions: the cipher's table is S, its keys are the key's.
-/
import Derived.Test.YtfefkakdhaecpaaAeI
import Derived.Test.YtfefkakdhaecpaaAeK
namespace Go.Proofs.Ytfefkakdhaecpaa.Ae
open Go.RowKit By
set_option linter.unusedVariables false
set_option linter.unusedSimpArgs false

/-- the block behind r rounds, the last one left out. -/
def cip (W B : Nat → Nat) : Nat → Nat → Nat
  | 0 => xr B W
  | r + 1 => xr (mx (mv (cip W B r))) (fun i => W (16 * (r + 1) + i))
theorem cip_zero (W B : Nat → Nat) : cip W B 0 = xr B W := rfl
theorem cip_succ (W B : Nat → Nat) (r : Nat) : cip W B (r + 1) = xr (mx (mv (cip W B r))) (fun i => W (16 * (r + 1) + i)) := rfl
/-- a block enciphered by round keys. -/
def enc (W B : Nat → Nat) : Nat → Nat := xr (mv (cip W B 9)) (fun i => W (160 + i))
/-- a cipher in memory. -/
def Ci (w : World) (b : Nat) (W : Nat → Nat) : Prop := Ay w b 0 256 sbox ∧ Ay w b 256 176 W
theorem Ci.below {w w' : World} {b : Nat} {W : Nat → Nat} (h : Ci w b W) (k : Below w.heap.size w w') : Ci w' b W := ⟨h.1.below k, h.2.below k⟩
theorem Ay.part {w : World} {b o n : Nat} {g : Nat → Nat} (h : Ay w b o n g) (p m : Nat) (hm : p + m ≤ n) : Ay w b (o + p) m (fun i => g (p + i)) :=
  ⟨h.1, fun i hi => h.2.1 (p + i) (by omega), fun i hi => by rw [Nat.add_assoc]; exact h.2.2 (p + i) (by omega)⟩
theorem mx_lt16 {s : Nat → Nat} (hs : ∀ i, i < 16 → s i < 256) (i : Nat) (hi : i < 16) : mx s i < 256 := by
  have h : ∀ k, k ≤ 4 → mxs s i k < 256 := by
    intro k
    induction k with
    | zero => intro _; show 0 < 256; omega
    | succ k ih => intro hk; exact lt_xor8 (ih (by omega)) (gm_lt (hs _ (by omega)))
  exact h 4 (by omega)
theorem cip_lt {W B : Nat → Nat} (hW : ∀ i, i < 176 → W i < 256) (hB : ∀ i, i < 16 → B i < 256) : ∀ r, r ≤ 9 → ∀ i, i < 16 → cip W B r i < 256
  | 0, _, i, hi => lt_xor8 (hB i hi) (hW i (by omega))
  | r + 1, hr, i, hi => lt_xor8 (mx_lt16 (fun j _ => mv_lt _ j) i hi) (hW _ (by omega))
theorem enc_lt {W B : Nat → Nat} (hW : ∀ i, i < 176 → W i < 256) (i : Nat) (hi : i < 16) : enc W B i < 256 := lt_xor8 (mv_lt _ i) (hW _ (by omega))
theorem load_ay {w : World} {b o : Nat} {g : Nat → Nat} (h : Ay w b o 16 g) : (Instr.loadAt 38 (.pointer (some ⟨b, o, none⟩))).run Try.prog w = .ok (.agg (ac g 16).toArray) w :=
  run_loadAt_mid w b o 38 (ac g 16) _ h.range Try.underlying38 rfl (by rw [ac_len]; exact info_blk)
theorem store_ay {w : World} {b o : Nat} (h : w.there b o 16) (g : Nat → Nat) : (Instr.storeAt 38 (.pointer (some ⟨b, o, none⟩)) (.agg (ac g 16).toArray)).run Try.prog w = .ok () (w.setCells b o (ac g 16)) := by
  have := run_storeAt_mid (P := Try.prog) w b o 38 (ac g 16).toArray (by rw [ac_size]; exact h) (by rw [ac_size]; exact info_blk) (ac_one g 16)
  rwa [List.toList_toArray] at this

/-- the cells of a loaded or stored block, as the walk asks for them. -/
theorem ac_lens (g : Nat → Nat) : (ac g 16).length = 16 ∧ (Try.prog.info? 38).map (·.size) = some (ac g 16).length ∧ ∀ v ∈ ac g 16, v.oneCell' = true :=
  ⟨ac_len g 16, by rw [ac_len]; exact info_blk, fun v hv => (Array.all_eq_true_iff_forall_mem.1 (ac_one g 16)) v (by simpa using hv)⟩
theorem range_below {w w' : World} {b o : Nat} {cs : List Value} (h : w.rangeAt b o cs) (hb : b < w.heap.size) (k : Below w.heap.size w w') : w'.rangeAt b o cs :=
  fun j v hv => (k.cell (p := ⟨b, o + j, none⟩) hb).trans (h j v hv)
/-- what a region that enciphers leans on: a round key at o of block b, the cipher's table, a block t that is written, a block behind it that is noughts. -/
def En (w0 : World) (b o t : Nat) (H : Nat → Nat) (w : World) : Prop :=
  w.rangeAt b o (ac H 16) ∧ w.there t 0 16 ∧ Ay w b 0 256 sbox ∧ Ay w (t + 1) 0 16 (fun _ => 0) ∧ Below t w0 w
theorem En.call {w0 : World} {b o t : Nat} {H : Nat → Nat} {w1 w2 : World} (h : En w0 b o t H w1) (k : Below w1.heap.size w1 w2) : En w0 b o t H w2 :=
  have ht : t < w1.heap.size := Nat.lt_trans (Nat.lt_succ_self _) h.2.2.2.1.1
  ⟨range_below h.1 h.2.2.1.1 k, there_below h.2.1 ht k, h.2.2.1.below k, h.2.2.2.1.below k, h.2.2.2.2.trans (k.mono (Nat.le_of_lt ht))⟩
theorem En.store {w0 : World} {b o t : Nat} {H X : Nat → Nat} {w1 : World} (h : En w0 b o t H w1) (hb : b < t) : En w0 b o t H (w1.setCells t 0 (ac X 16)) :=
  ⟨World.rangeAt_setCells_apart h.1 _ _ _ (.inl (Nat.ne_of_lt hb)), World.there_setCells h.2.1 _ _ _, h.2.2.1.apart _ _ _ (.inl (Nat.ne_of_lt hb)), h.2.2.2.1.apart _ _ _ (.inl (Nat.succ_ne_self t)), belowCells t (Nat.le_refl _) _ 0 _ h.2.2.2.2⟩
/-- the same, where nothing else is kept. -/
def En2 (w0 : World) (b o t : Nat) (H : Nat → Nat) (w : World) : Prop :=
  w.rangeAt b o (ac H 16) ∧ w.there t 0 16 ∧ Ay w b 0 256 sbox ∧ t < w.heap.size ∧ Below t w0 w
theorem En2.call {w0 : World} {b o t : Nat} {H : Nat → Nat} {w1 w2 : World} (h : En2 w0 b o t H w1) (k : Below w1.heap.size w1 w2) : En2 w0 b o t H w2 :=
  ⟨range_below h.1 h.2.2.1.1 k, there_below h.2.1 h.2.2.2.1 k, h.2.2.1.below k, Nat.lt_of_lt_of_le h.2.2.2.1 k.size, h.2.2.2.2.trans (k.mono (Nat.le_of_lt h.2.2.2.1))⟩
theorem En2.store {w0 : World} {b o t : Nat} {H X : Nat → Nat} {w1 : World} (h : En2 w0 b o t H w1) (hb : b < t) : En2 w0 b o t H (w1.setCells t 0 (ac X 16)) :=
  ⟨World.rangeAt_setCells_apart h.1 _ _ _ (.inl (Nat.ne_of_lt hb)), World.there_setCells h.2.1 _ _ _, h.2.2.1.apart _ _ _ (.inl (Nat.ne_of_lt hb)), Nat.lt_of_lt_of_le h.2.2.2.1 (belowCells (B := 0) t (Nat.zero_le _) _ 0 _ (Below.refl _ _)).size, belowCells t (Nat.le_refl _) _ 0 _ h.2.2.2.2⟩
theorem En2.here {w0 : World} {b o t : Nat} {H X : Nat → Nat} {w1 : World} (h : En2 w0 b o t H w1) (hb : b < t) (hX : ∀ i, i < 16 → X i < 256) :
    Ay (w1.setCells t 0 (ac X 16)) t 0 16 X ∧ Below t w0 (w1.setCells t 0 (ac X 16)) := ⟨Ay.mk_cells h.2.2.2.1 h.2.1 hX, (h.store hb).2.2.2.2⟩
theorem En.here {w0 : World} {b o t : Nat} {H X : Nat → Nat} {w1 : World} (h : En w0 b o t H w1) (hb : b < t) (hX : ∀ i, i < 16 → X i < 256) :
    Ay (w1.setCells t 0 (ac X 16)) t 0 16 X ∧ Ay (w1.setCells t 0 (ac X 16)) (t + 1) 0 16 (fun _ => 0) ∧ Below t w0 (w1.setCells t 0 (ac X 16)) :=
  ⟨Ay.mk_cells (Nat.lt_trans (Nat.lt_succ_self _) h.2.2.2.1.1) h.2.1 hX, (h.store hb).2.2.2.1, (h.store hb).2.2.2.2⟩

set_option maxRecDepth 100000 in
set_option maxHeartbeats 4000000 in
theorem encipher_c (b : Nat) (W f : Nat → Nat) (w : World) (C : Ci w b W) (hf : ∀ i, i < 16 → f i < 256) :
    Calls Try.prog 17 #[.pointer (some ⟨b, 0, none⟩), .agg (ac f 16).toArray] w fun e w' => e = .returned (.agg (ac (enc W f) 16).toArray) ∧ Below w.heap.size w w' := by
  have WS := Lib.hid (balloc (balloc (brefl w) (.cells (ac f 16).toArray 38)) (.cells #[.int .u8 0, .int .u8 0, .int .u8 0, .int .u8 0, .int .u8 0, .int .u8 0, .int .u8 0, .int .u8 0, .int .u8 0, .int .u8 0, .int .u8 0, .int .u8 0, .int .u8 0, .int .u8 0, .int .u8 0, .int .u8 0] 38))
  have A0 := Lib.hid ((Ay.newC w 16 f 38 hf).below (balloc (brefl _) (.cells #[.int .u8 0, .int .u8 0, .int .u8 0, .int .u8 0, .int .u8 0, .int .u8 0, .int .u8 0, .int .u8 0, .int .u8 0, .int .u8 0, .int .u8 0, .int .u8 0, .int .u8 0, .int .u8 0, .int .u8 0, .int .u8 0] 38)))
  have R0 := Lib.hid (Ay.new0 (w.alloc (.cells (ac f 16).toArray 38)) 16 38)
  rw [sz_alloc] at R0
  replace R0 : Hid (Ay ((w.alloc (.cells (ac f 16).toArray 38)).alloc (.cells #[.int .u8 0, .int .u8 0, .int .u8 0, .int .u8 0, .int .u8 0, .int .u8 0, .int .u8 0, .int .u8 0, .int .u8 0, .int .u8 0, .int .u8 0, .int .u8 0, .int .u8 0, .int .u8 0, .int .u8 0, .int .u8 0] 38)) (w.heap.size + 1) 0 16 (fun _ => 0)) := R0
  have C0 := Lib.hid (C.below WS.out)
  have CL := C.1.1
  have HF := Lib.hid hf
  have HW := Lib.hid C.2.2.1
  clear hf C
  go_enter Try.func17, Try.ntmps17
  go_wp2_with fail
  generalize ((w.alloc (.cells (ac f 16).toArray 38)).alloc (.cells #[.int .u8 0, .int .u8 0, .int .u8 0, .int .u8 0, .int .u8 0, .int .u8 0, .int .u8 0, .int .u8 0, .int .u8 0, .int .u8 0, .int .u8 0, .int .u8 0, .int .u8 0, .int .u8 0, .int .u8 0, .int .u8 0] 38)) = W0 at *
  have TR : W0.drew.rangeAt w.heap.size 0 (ac f 16) := (A0.out.below (bdrew1 _ _)).range
  have KD : Hid (En W0 b 256 w.heap.size W W0.drew) := Lib.hid (by
    have C1 := C0.out.below (bdrew1 _ _)
    exact ⟨((C1.2.part 0 16 (by omega)).eq (g' := W) (fun i _ => by rw [Nat.zero_add])).range, (A0.out.below (bdrew1 _ _)).there, C1.1, R0.out.below (bdrew1 _ _), bdrew1 _ _⟩)
  have XL := Lib.hid (fun i (hi : i < 16) => lt_xor8 (HF.out i hi) (HW.out i (by omega)))
  have PL := Lib.hid (fun w => plus_c f W w HF.out (fun i hi => HW.out i (by omega)))
  refine wp_region_noPanic ?_
  refine wp_region_held_drew (S := fun w' => En W0 b 256 w.heap.size W w') (by kernel_rfl) KD.out (fun hHeld => ?_)
  refine wpAnyH_take (i := 1) (v := ?_) rfl (by kernel_rfl) (by kernel_rfl) (by kernel_rfl) (fun _ _ _ h => h) (Or.inl ⟨by rfl, ?_⟩) hHeld ?_
  rotate_left
  · ((intro w _; go_simp); try with_reducible rfl)
  (try simp only [List.getElem_toArray, List.getElem_cons_succ, List.getElem_cons_zero, Act.put, List.setIfInBounds_toArray, List.set_cons_zero, List.set_cons_succ])
  refine wpAnyH_take (i := 2) (v := ?_) rfl (by kernel_rfl) (by kernel_rfl) (by kernel_rfl) (fun _ _ _ h => h) (Or.inl ⟨by rfl, ?_⟩) hHeld ?_
  rotate_left
  · ((intro w _; go_simp); try with_reducible rfl)
  (try simp only [List.getElem_toArray, List.getElem_cons_succ, List.getElem_cons_zero, Act.put, List.setIfInBounds_toArray, List.set_cons_zero, List.set_cons_succ])
  refine wpAnyH_take (i := 3) (v := ?_) rfl (by kernel_rfl) (by kernel_rfl) (by kernel_rfl) (fun _ _ _ h => h) (Or.inl ⟨by rfl, ?_⟩) hHeld ?_
  rotate_left
  · ((intro w _; go_simp); try with_reducible rfl)
  (try simp only [List.getElem_toArray, List.getElem_cons_succ, List.getElem_cons_zero, Act.put, List.setIfInBounds_toArray, List.set_cons_zero, List.set_cons_succ])
  refine wpAnyH_take (i := 4) (v := ?_) rfl (by kernel_rfl) (by kernel_rfl) (by kernel_rfl) (fun _ _ _ h => h) (Or.inl ⟨by rfl, ?_⟩) hHeld ?_
  rotate_left
  · ((intro w _; go_simp); try with_reducible rfl)
  (try simp only [List.getElem_toArray, List.getElem_cons_succ, List.getElem_cons_zero, Act.put, List.setIfInBounds_toArray, List.set_cons_zero, List.set_cons_succ])
  refine wpAnyH_take (i := 5) rfl (by kernel_rfl) (by kernel_rfl) (by kernel_rfl) (fun _ _ _ h => h) (yieldsIf_load_mid (by rfl) _ _ rfl _ _ rfl _ _ (fun w h => h.1) Try.underlying38 rfl (by rw [ac_len]; exact info_blk)) hHeld ?_
  (try simp only [List.getElem_toArray, List.getElem_cons_succ, List.getElem_cons_zero, Act.put, List.setIfInBounds_toArray, List.set_cons_zero, List.set_cons_succ])
  refine wpAnyH_ready (rs := [0]) (by kernel_rfl) (by simp) (AllReadyH.cons rfl (fun KQ hKQ => ?_) AllReadyH.nil)
  rw [if_pos (by rfl)]
  refine wp_load_mid _ _ rfl _ _ rfl _ _ TR Try.underlying38 rfl (by rw [ac_len]; exact info_blk) ?_
  refine hKQ.out _ _ hHeld (fun hH2 => ?_)
  clear hKQ KQ hHeld
  have hHeld := hH2
  clear hH2
  (try simp only [List.getElem_toArray, List.getElem_cons_succ, List.getElem_cons_zero, Act.put, List.setIfInBounds_toArray, List.set_cons_zero, List.set_cons_succ])
  refine wpAnyH_ready (rs := [6]) (by kernel_rfl) (by simp) (AllReadyH.cons rfl (fun KQ hKQ => ?_) AllReadyH.nil)
  go_simp
  refine (PL.out _).mono ?_
  rintro e w' ⟨rfl, hb⟩
  replace hHeld := En.call hHeld hb
  clear hb
  go_wp2_with fail
  refine hKQ.out _ _ hHeld (fun hH2 => ?_)
  clear hKQ KQ hHeld
  have hHeld := hH2
  clear hH2
  (try simp only [List.getElem_toArray, List.getElem_cons_succ, List.getElem_cons_zero, Act.put, List.setIfInBounds_toArray, List.set_cons_zero, List.set_cons_succ])
  refine wpAnyH_ready (rs := [7]) (by kernel_rfl) (by simp) (AllReadyH.cons rfl (fun KQ hKQ => ?_) AllReadyH.nil)
  rw [if_pos (by rfl)]
  refine wp_store_mid _ _ _ rfl _ _ (ac (xr f W) 16).toArray rfl rfl (by rw [ac_size]; exact hHeld.2.1) (by rw [ac_size]; exact info_blk) (ac_one _ 16) ?_
  rw [List.toList_toArray]
  have EN := Lib.hid (En.here (X := xr f W) hHeld CL XL.out)
  refine hKQ.out _ _ (hHeld.store CL) (fun hH2 => ?_)
  clear hKQ KQ hHeld hH2
  (try simp only [List.getElem_toArray, List.getElem_cons_succ, List.getElem_cons_zero, Act.put, List.setIfInBounds_toArray, List.set_cons_zero, List.set_cons_succ])
  refine wpAnyH_done (by kernel_rfl) ?_ _
  refine NoPanic.normal ?_
  obtain ⟨a1, r1, b1⟩ := EN.out
  have A1 := Lib.hid a1
  have R1 := Lib.hid r1
  have B1 := Lib.hid b1
  clear a1 r1 b1 EN TR KD XL PL
  generalize w'.setCells w.heap.size 0 (ac (xr f W) 16) = W1 at *
  go_wp2_with fail
  go_loopw [5] (fun i wr => ∃ r n : Nat, n = r + 1 ∧ n ≤ 10 ∧ i = .int .i64 n ∧ Ay wr w.heap.size 0 16 (cip W f r) ∧ Ay wr (w.heap.size + 1) 0 16 (fun _ => 0) ∧ Below w.heap.size W0 wr) (fun i _ => 10 - (intOf i).toNat)
  case atStart => exact ⟨0, 1, rfl, by omega, rfl, by rw [cip_zero]; exact A1.out, R1.out, B1.out⟩
  case round =>
    clear A1 R1 B1
    obtain ⟨r, n, hn, hk, rfl, ar, rr, hb⟩ := hrel
    rename World => wr
    have HN := Lib.hid hn
    have AR := Lib.hid ar
    have RR := Lib.hid rr
    have BB := Lib.hid hb
    have CC : Hid (Ci wr b W) := Lib.hid ⟨C0.out.1.belowB CL hb, C0.out.2.belowB CL hb⟩
    clear hn ar rr hb
    by_cases c : n < 10
    · have e0 : decide ((n : Int) < 10) = true := by rw [decide_eq_true_iff]; omega
      have NX : Hid (cip W f (r + 1) = xr (mx (mv (cip W f r))) (fun i => W (16 * n + i))) := Lib.hid (by rw [HN.out, cip_succ])
      have GL := Lib.hid (AR.out.2.1)
      obtain ⟨H, hH⟩ : ∃ H : Nat → Nat, H = fun i => W (16 * n + i) := ⟨_, rfl⟩
      have HLH : Hid (∀ i, i < 16 → H i < 256) := Lib.hid (by rw [hH]; exact fun i hi => HW.out _ (by omega))
      have KR : Hid (wr.drew.rangeAt b (256 + n * 16) (ac H 16)) := Lib.hid (by
        rw [hH]
        have := ((CC.out.below (bdrew1 _ _)).2.part (16 * n) 16 (by omega)).range
        rwa [show 256 + 16 * n = 256 + n * 16 from by omega] at this)
      have NXH : Hid (cip W f (r + 1) = xr (mx (mv (cip W f r))) H) := Lib.hid (by rw [NX.out, hH])
      clear NX hH
      generalize cip W f r = G at *
      have MVL := Lib.hid (fun i (_ : i < 16) => mv_lt G i)
      have MXL := Lib.hid (fun i hi => mx_lt16 MVL.out i hi)
      have SB := Lib.hid (fun t w (k : En wr b (256 + n * 16) t H w) => substituted_c b G w k.2.2.1 GL.out)
      have MX := Lib.hid (fun w => mixed_c (mv G) w MVL.out)
      have PL := Lib.hid (fun w => plus_c (mx (mv G)) H w MXL.out HLH.out)
      have XL := Lib.hid (fun i hi => lt_xor8 (MXL.out i hi) (HLH.out i hi))
      have TR : wr.drew.rangeAt w.heap.size 0 (ac G 16) := (AR.out.below (bdrew1 _ _)).range
      have KD : Hid (En wr b (256 + n * 16) w.heap.size H wr.drew) := Lib.hid ⟨KR.out, (AR.out.below (bdrew1 _ _)).there, CC.out.1.below (bdrew1 _ _), RR.out.below (bdrew1 _ _), bdrew1 _ _⟩
      have n0 : (0 : Int) ≤ (n : Int) := by omega
      have n1 : (n : Int) < 10 := by omega
      have n2 : (n : Int) < 11 := by omega
      go_wp2_with fail
      refine wp_region_noPanic ?_
      refine wp_region_held_drew (S := fun w' => En wr b (256 + n * 16) w.heap.size H w') (by kernel_rfl) KD.out (fun hHeld => ?_)
      refine wpAnyH_take (i := 0) (v := ?_) rfl (by kernel_rfl) (by kernel_rfl) (by kernel_rfl) (fun _ _ _ h => h) (Or.inl ⟨by rfl, ?_⟩) hHeld ?_
      rotate_left
      · ((intro w _; go_simp); try with_reducible rfl)
      (try simp only [List.getElem_toArray, List.getElem_cons_succ, List.getElem_cons_zero, Act.put, List.setIfInBounds_toArray, List.set_cons_zero, List.set_cons_succ])
      refine wpAnyH_take (i := 4) (v := ?_) rfl (by kernel_rfl) (by kernel_rfl) (by kernel_rfl) (fun _ _ _ h => h) (Or.inl ⟨by rfl, ?_⟩) hHeld ?_
      rotate_left
      · ((intro w _; go_simp); try with_reducible rfl)
      (try simp only [List.getElem_toArray, List.getElem_cons_succ, List.getElem_cons_zero, Act.put, List.setIfInBounds_toArray, List.set_cons_zero, List.set_cons_succ])
      refine wpAnyH_take (i := 5) (v := ?_) rfl (by kernel_rfl) (by kernel_rfl) (by kernel_rfl) (fun _ _ _ h => h) (Or.inl ⟨by rfl, ?_⟩) hHeld ?_
      rotate_left
      · ((intro w _; go_simp); try with_reducible rfl)
      (try simp only [List.getElem_toArray, List.getElem_cons_succ, List.getElem_cons_zero, Act.put, List.setIfInBounds_toArray, List.set_cons_zero, List.set_cons_succ])
      refine wpAnyH_take (i := 6) (v := ?_) rfl (by kernel_rfl) (by kernel_rfl) (by kernel_rfl) (fun _ _ _ h => h) (Or.inl ⟨by rfl, ?_⟩) hHeld ?_
      rotate_left
      · ((intro w _; go_simp); try with_reducible rfl)
      (try simp only [List.getElem_toArray, List.getElem_cons_succ, List.getElem_cons_zero, Act.put, List.setIfInBounds_toArray, List.set_cons_zero, List.set_cons_succ])
      refine wpAnyH_take (i := 7) (v := ?_) rfl (by kernel_rfl) (by kernel_rfl) (by kernel_rfl) (fun _ _ _ h => h) (Or.inl ⟨by rfl, ?_⟩) hHeld ?_
      rotate_left
      · ((intro w _; go_simp); try with_reducible rfl)
      (try simp only [List.getElem_toArray, List.getElem_cons_succ, List.getElem_cons_zero, Act.put, List.setIfInBounds_toArray, List.set_cons_zero, List.set_cons_succ])
      refine wpAnyH_take (i := 8) (v := ?_) rfl (by kernel_rfl) (by kernel_rfl) (by kernel_rfl) (fun _ _ _ h => h) (Or.inl ⟨by rfl, ?_⟩) hHeld ?_
      rotate_left
      · ((intro w _; go_simp); try with_reducible rfl)
      (try simp only [List.getElem_toArray, List.getElem_cons_succ, List.getElem_cons_zero, Act.put, List.setIfInBounds_toArray, List.set_cons_zero, List.set_cons_succ])
      refine wpAnyH_take (i := 9) rfl (by kernel_rfl) (by kernel_rfl) (by kernel_rfl) (fun _ _ _ h => h) (yieldsIf_load_mid (by rfl) _ _ rfl _ _ rfl _ _ (fun w h => h.1) Try.underlying38 rfl (by rw [ac_len]; exact info_blk)) hHeld ?_
      (try simp only [List.getElem_toArray, List.getElem_cons_succ, List.getElem_cons_zero, Act.put, List.setIfInBounds_toArray, List.set_cons_zero, List.set_cons_succ])
      refine wpAnyH_ready (rs := [1]) (by kernel_rfl) (by simp) (AllReadyH.cons rfl (fun KQ hKQ => ?_) AllReadyH.nil)
      rw [if_pos (by rfl)]
      refine wp_load_mid _ _ rfl _ _ rfl _ _ TR Try.underlying38 rfl (by rw [ac_len]; exact info_blk) ?_
      refine hKQ.out _ _ hHeld (fun hH2 => ?_)
      clear hKQ KQ hHeld
      have hHeld := hH2
      clear hH2
      (try simp only [List.getElem_toArray, List.getElem_cons_succ, List.getElem_cons_zero, Act.put, List.setIfInBounds_toArray, List.set_cons_zero, List.set_cons_succ])
      refine wpAnyH_ready (rs := [2]) (by kernel_rfl) (by simp) (AllReadyH.cons rfl (fun KQ hKQ => ?_) AllReadyH.nil)
      go_simp
      refine (SB.out _ _ hHeld).mono ?_
      rintro e w' ⟨rfl, hb⟩
      replace hHeld := En.call hHeld hb
      clear hb
      go_wp2_with fail
      refine hKQ.out _ _ hHeld (fun hH2 => ?_)
      clear hKQ KQ hHeld
      have hHeld := hH2
      clear hH2
      (try simp only [List.getElem_toArray, List.getElem_cons_succ, List.getElem_cons_zero, Act.put, List.setIfInBounds_toArray, List.set_cons_zero, List.set_cons_succ])
      refine wpAnyH_ready (rs := [3]) (by kernel_rfl) (by simp) (AllReadyH.cons rfl (fun KQ hKQ => ?_) AllReadyH.nil)
      go_simp
      refine (MX.out _).mono ?_
      rintro e w' ⟨rfl, hb⟩
      replace hHeld := En.call hHeld hb
      clear hb
      go_wp2_with fail
      refine hKQ.out _ _ hHeld (fun hH2 => ?_)
      clear hKQ KQ hHeld
      have hHeld := hH2
      clear hH2
      (try simp only [List.getElem_toArray, List.getElem_cons_succ, List.getElem_cons_zero, Act.put, List.setIfInBounds_toArray, List.set_cons_zero, List.set_cons_succ])
      refine wpAnyH_ready (rs := [10]) (by kernel_rfl) (by simp) (AllReadyH.cons rfl (fun KQ hKQ => ?_) AllReadyH.nil)
      go_simp
      refine (PL.out _).mono ?_
      rintro e w' ⟨rfl, hb⟩
      replace hHeld := En.call hHeld hb
      clear hb
      go_wp2_with fail
      refine hKQ.out _ _ hHeld (fun hH2 => ?_)
      clear hKQ KQ hHeld
      have hHeld := hH2
      clear hH2
      (try simp only [List.getElem_toArray, List.getElem_cons_succ, List.getElem_cons_zero, Act.put, List.setIfInBounds_toArray, List.set_cons_zero, List.set_cons_succ])
      refine wpAnyH_ready (rs := [11]) (by kernel_rfl) (by simp) (AllReadyH.cons rfl (fun KQ hKQ => ?_) AllReadyH.nil)
      rw [if_pos (by rfl)]
      refine wp_store_mid _ _ _ rfl _ _ (ac (xr (mx (mv G)) H) 16).toArray rfl rfl (by rw [ac_size]; exact hHeld.2.1) (by rw [ac_size]; exact info_blk) (ac_one _ 16) ?_
      rw [List.toList_toArray]
      have EN := Lib.hid (En.here (X := xr (mx (mv G)) H) hHeld CL XL.out)
      refine hKQ.out _ _ (hHeld.store CL) (fun hH2 => ?_)
      clear hKQ KQ hHeld hH2
      (try simp only [List.getElem_toArray, List.getElem_cons_succ, List.getElem_cons_zero, Act.put, List.setIfInBounds_toArray, List.set_cons_zero, List.set_cons_succ])
      refine wpAnyH_done (by kernel_rfl) ?_ _
      refine NoPanic.normal ?_
      obtain ⟨a1, r1, b1⟩ := EN.out
      have A1 := Lib.hid a1
      have R1 := Lib.hid r1
      have B1 := Lib.hid (BB.out.trans b1)
      clear a1 r1 b1 EN TR KD XL PL SB MX
      go_wp2_with fail
      go_roundw
      case rel => exact ⟨r + 1, n + 1, by rw [HN.out], by omega, by go_num, by rw [NXH.out]; exact A1.out, R1.out, B1.out⟩
      case measure => simp [intOf]; omega
    · have e0 : decide ((n : Int) < 10) = false := by rw [decide_eq_false_iff_not]; omega
      obtain rfl : n = 10 := by omega
      obtain rfl : r = 9 := by have := HN.out; omega
      have EE : Hid (enc W f = xr (mv (cip W f 9)) (fun i => W (160 + i))) := rfl
      have GL := Lib.hid (AR.out.2.1)
      obtain ⟨H, hH⟩ : ∃ H : Nat → Nat, H = fun i => W (160 + i) := ⟨_, rfl⟩
      have HLH : Hid (∀ i, i < 16 → H i < 256) := Lib.hid (by rw [hH]; exact fun i hi => HW.out _ (by omega))
      have KR : Hid (wr.drew.rangeAt b 416 (ac H 16)) := Lib.hid (by
        rw [hH]
        exact ((CC.out.below (bdrew1 _ _)).2.part 160 16 (by omega)).range)
      rw [← hH] at EE
      clear hH
      generalize cip W f 9 = G at *
      have MVL := Lib.hid (fun i (_ : i < 16) => mv_lt G i)
      have SB := Lib.hid (fun t w (k : En2 wr b 416 t H w) => substituted_c b G w k.2.2.1 GL.out)
      have PL := Lib.hid (fun w => plus_c (mv G) H w MVL.out HLH.out)
      have XL := Lib.hid (fun i hi => lt_xor8 (MVL.out i hi) (HLH.out i hi))
      have TR : wr.drew.rangeAt w.heap.size 0 (ac G 16) := (AR.out.below (bdrew1 _ _)).range
      have KD : Hid (En2 wr b 416 (w.heap.size + 1) H wr.drew) := Lib.hid ⟨KR.out, (RR.out.below (bdrew1 _ _)).there, CC.out.1.below (bdrew1 _ _), (RR.out.below (bdrew1 _ wr)).1, bdrew1 _ _⟩
      have CL2 : b < w.heap.size + 1 := by omega
      go_wp2_with fail
      refine wp_region_noPanic ?_
      refine wp_region_held_drew (S := fun w' => En2 wr b 416 (w.heap.size + 1) H w') (by kernel_rfl) KD.out (fun hHeld => ?_)
      refine wpAnyH_take (i := 0) (v := ?_) rfl (by kernel_rfl) (by kernel_rfl) (by kernel_rfl) (fun _ _ _ h => h) (Or.inl ⟨by rfl, ?_⟩) hHeld ?_
      rotate_left
      · ((intro w _; go_simp); try with_reducible rfl)
      (try simp only [List.getElem_toArray, List.getElem_cons_succ, List.getElem_cons_zero, Act.put, List.setIfInBounds_toArray, List.set_cons_zero, List.set_cons_succ])
      refine wpAnyH_take (i := 3) (v := ?_) rfl (by kernel_rfl) (by kernel_rfl) (by kernel_rfl) (fun _ _ _ h => h) (Or.inl ⟨by rfl, ?_⟩) hHeld ?_
      rotate_left
      · ((intro w _; go_simp); try with_reducible rfl)
      (try simp only [List.getElem_toArray, List.getElem_cons_succ, List.getElem_cons_zero, Act.put, List.setIfInBounds_toArray, List.set_cons_zero, List.set_cons_succ])
      refine wpAnyH_take (i := 4) (v := ?_) rfl (by kernel_rfl) (by kernel_rfl) (by kernel_rfl) (fun _ _ _ h => h) (Or.inl ⟨by rfl, ?_⟩) hHeld ?_
      rotate_left
      · ((intro w _; go_simp); try with_reducible rfl)
      (try simp only [List.getElem_toArray, List.getElem_cons_succ, List.getElem_cons_zero, Act.put, List.setIfInBounds_toArray, List.set_cons_zero, List.set_cons_succ])
      refine wpAnyH_take (i := 5) (v := ?_) rfl (by kernel_rfl) (by kernel_rfl) (by kernel_rfl) (fun _ _ _ h => h) (Or.inl ⟨by rfl, ?_⟩) hHeld ?_
      rotate_left
      · ((intro w _; go_simp); try with_reducible rfl)
      (try simp only [List.getElem_toArray, List.getElem_cons_succ, List.getElem_cons_zero, Act.put, List.setIfInBounds_toArray, List.set_cons_zero, List.set_cons_succ])
      refine wpAnyH_take (i := 6) (v := ?_) rfl (by kernel_rfl) (by kernel_rfl) (by kernel_rfl) (fun _ _ _ h => h) (Or.inl ⟨by rfl, ?_⟩) hHeld ?_
      rotate_left
      · ((intro w _; go_simp); try with_reducible rfl)
      (try simp only [List.getElem_toArray, List.getElem_cons_succ, List.getElem_cons_zero, Act.put, List.setIfInBounds_toArray, List.set_cons_zero, List.set_cons_succ])
      refine wpAnyH_take (i := 7) rfl (by kernel_rfl) (by kernel_rfl) (by kernel_rfl) (fun _ _ _ h => h) (yieldsIf_load_mid (by rfl) _ _ rfl _ _ rfl _ _ (fun w h => h.1) Try.underlying38 rfl (by rw [ac_len]; exact info_blk)) hHeld ?_
      (try simp only [List.getElem_toArray, List.getElem_cons_succ, List.getElem_cons_zero, Act.put, List.setIfInBounds_toArray, List.set_cons_zero, List.set_cons_succ])
      refine wpAnyH_ready (rs := [1]) (by kernel_rfl) (by simp) (AllReadyH.cons rfl (fun KQ hKQ => ?_) AllReadyH.nil)
      rw [if_pos (by rfl)]
      refine wp_load_mid _ _ rfl _ _ rfl _ _ TR Try.underlying38 rfl (by rw [ac_len]; exact info_blk) ?_
      refine hKQ.out _ _ hHeld (fun hH2 => ?_)
      clear hKQ KQ hHeld
      have hHeld := hH2
      clear hH2
      (try simp only [List.getElem_toArray, List.getElem_cons_succ, List.getElem_cons_zero, Act.put, List.setIfInBounds_toArray, List.set_cons_zero, List.set_cons_succ])
      refine wpAnyH_ready (rs := [2]) (by kernel_rfl) (by simp) (AllReadyH.cons rfl (fun KQ hKQ => ?_) AllReadyH.nil)
      go_simp
      refine (SB.out _ _ hHeld).mono ?_
      rintro e w' ⟨rfl, hb⟩
      replace hHeld := En2.call hHeld hb
      clear hb
      go_wp2_with fail
      refine hKQ.out _ _ hHeld (fun hH2 => ?_)
      clear hKQ KQ hHeld
      have hHeld := hH2
      clear hH2
      (try simp only [List.getElem_toArray, List.getElem_cons_succ, List.getElem_cons_zero, Act.put, List.setIfInBounds_toArray, List.set_cons_zero, List.set_cons_succ])
      refine wpAnyH_ready (rs := [8]) (by kernel_rfl) (by simp) (AllReadyH.cons rfl (fun KQ hKQ => ?_) AllReadyH.nil)
      go_simp
      refine (PL.out _).mono ?_
      rintro e w' ⟨rfl, hb⟩
      replace hHeld := En2.call hHeld hb
      clear hb
      go_wp2_with fail
      refine hKQ.out _ _ hHeld (fun hH2 => ?_)
      clear hKQ KQ hHeld
      have hHeld := hH2
      clear hH2
      (try simp only [List.getElem_toArray, List.getElem_cons_succ, List.getElem_cons_zero, Act.put, List.setIfInBounds_toArray, List.set_cons_zero, List.set_cons_succ])
      refine wpAnyH_ready (rs := [9]) (by kernel_rfl) (by simp) (AllReadyH.cons rfl (fun KQ hKQ => ?_) AllReadyH.nil)
      rw [if_pos (by rfl)]
      refine wp_store_mid _ _ _ rfl _ _ (ac (xr (mv G) H) 16).toArray rfl rfl (by rw [ac_size]; exact hHeld.2.1) (by rw [ac_size]; exact info_blk) (ac_one _ 16) ?_
      rw [List.toList_toArray]
      have EN := Lib.hid (En2.here (X := xr (mv G) H) hHeld CL2 XL.out)
      refine hKQ.out _ _ (En2.store hHeld CL2) (fun hH2 => ?_)
      clear hKQ KQ hHeld hH2
      (try simp only [List.getElem_toArray, List.getElem_cons_succ, List.getElem_cons_zero, Act.put, List.setIfInBounds_toArray, List.set_cons_zero, List.set_cons_succ])
      refine wpAnyH_done (by kernel_rfl) ?_ _
      refine NoPanic.normal ?_
      obtain ⟨a1, b1⟩ := EN.out
      have FI := Lib.hid a1
      have FB := Lib.hid (WS.out.trans (BB.out.trans (b1.mono (Nat.le_succ _))))
      clear a1 b1 EN TR KD XL PL SB
      go_wp2_with fail
      refine bodyPost_ret (v := .agg (ac (xr (mv G) H) 16).toArray) (results_cell_mid rfl _ _ (w.heap.size + 1) _ _ rfl FI.out.range Try.underlying38 rfl (by rw [ac_len]; exact info_blk)) rfl ⟨by rw [EE.out], FB.out⟩
end Go.Proofs.Ytfefkakdhaecpaa.Ae

/-
  An array of bytes in memory, at any place of a block, read and stored whole; the contract of aes' plus.
  Conditions: none.
  The contracts of aes.double, bits.RotateLeft8, aes.scattered and aes.substitutes.
  Conditions: the arguments are bytes.
  The contract of aes.substitutes: S of every byte.
  Conditions: none.
  The contract of aes' substituted.
  Conditions: the cipher's table is S.
-/
import Derived.Test.YtbbcgcfahaljoaaDoorAa
namespace Go.Proofs.YtbbcgcfahaljoaaDoor.Ae
open Go.RowKit By
set_option linter.unusedVariables false
set_option linter.unusedSimpArgs false

/-- an array of n bytes in block b from place o on, that may be written. -/
def Ay (w : World) (b o n : Nat) (g : Nat → Nat) : Prop :=
  b < w.heap.size ∧ (∀ i, i < n → g i < 256) ∧ ∀ i, i < n → w.cell? ⟨b, o + i, none⟩ = some (.int .u8 (g i)) ∧ w.frozen? ⟨b, o + i, none⟩ = false
theorem Ay.belowB {B : Nat} {w w' : World} {b o n : Nat} {g : Nat → Nat} (h : Ay w b o n g) (hb : b < B) (k : Below B w w') : Ay w' b o n g :=
  ⟨Nat.lt_of_lt_of_le h.1 k.size, h.2.1, fun i hi => ⟨(k.cell (p := ⟨b, o + i, none⟩) hb).trans (h.2.2 i hi).1, (k.frozen (p := ⟨b, o + i, none⟩) hb).trans (h.2.2 i hi).2⟩⟩
theorem Ay.below {w w' : World} {b o n : Nat} {g : Nat → Nat} (h : Ay w b o n g) (k : Below w.heap.size w w') : Ay w' b o n g := h.belowB h.1 k
theorem Ay.at {w : World} {b n : Nat} {g : Nat → Nat} (h : Ay w b 0 n g) {i : Nat} (hi : i < n) : w.cell? ⟨b, i, none⟩ = some (.int .u8 (g i)) ∧ w.frozen? ⟨b, i, none⟩ = false := by
  have := h.2.2 i hi
  rwa [Nat.zero_add] at this
def up (g : Nat → Nat) (k v : Nat) : Nat → Nat := fun i => if i = k then v else g i
theorem Ay.set {w : World} {b o n : Nat} {g : Nat → Nat} (h : Ay w b o n g) (k v : Nat) (hk : k < n) (hv : v < 256) : Ay (w.setCell ⟨b, o + k, none⟩ (.int .u8 v)) b o n (up g k v) := by
  refine ⟨by simpa [World.setCell] using h.1, fun i hi => ?_, fun i hi => ?_⟩
  · unfold up; split
    · exact hv
    · exact h.2.1 i hi
  · refine ⟨?_, by rw [World.frozen?_setCell]; exact (h.2.2 i hi).2⟩
    unfold up
    by_cases e : i = k
    · subst e
      rw [World.cell?_setCell_same _ _ _ (h.2.2 i hi).1, if_pos rfl]
    · rw [World.cell?_setCell_other _ _ _ _ (fun q => e (by simp at q <;> omega)), if_neg e]
      exact (h.2.2 i hi).1
theorem Ay.set0 {w : World} {b n : Nat} {g : Nat → Nat} (h : Ay w b 0 n g) (k v : Nat) (hk : k < n) (hv : v < 256) : Ay (w.setCell ⟨b, k, none⟩ (.int .u8 v)) b 0 n (up g k v) := by
  have := h.set k v hk hv
  rwa [Nat.zero_add] at this
theorem Ay.eq {w : World} {b o n : Nat} {g g' : Nat → Nat} (h : Ay w b o n g) (e : ∀ i, i < n → g i = g' i) : Ay w b o n g' :=
  ⟨h.1, fun i hi => by rw [← e i hi]; exact h.2.1 i hi, fun i hi => by rw [← e i hi]; exact h.2.2 i hi⟩
/-- bytes as cells. -/
def ac (g : Nat → Nat) (n : Nat) : List Value := (List.range n).map fun i => .int .u8 ((g i : Nat) : Int)
theorem ac_len (g : Nat → Nat) (n : Nat) : (ac g n).length = n := by simp [ac]
theorem ac_get {g : Nat → Nat} {n j : Nat} (h : j < n) : (ac g n)[j]? = some (.int .u8 ((g j : Nat) : Int)) := by simp [ac, h]
theorem ac_eq {g g' : Nat → Nat} {n : Nat} (e : ∀ i, i < n → g i = g' i) : ac g n = ac g' n := by
  unfold ac
  refine List.map_congr_left fun i hi => ?_
  rw [e i (List.mem_range.1 hi)]
theorem ac_one (g : Nat → Nat) (n : Nat) : (ac g n).toArray.all (·.oneCell') = true := by
  refine all_oneCell_toArray fun v hv => ?_
  simp only [ac, List.mem_map] at hv
  obtain ⟨i, _, rfl⟩ := hv
  rfl
theorem ac_size (g : Nat → Nat) (n : Nat) : (ac g n).toArray.size = n := by simp [ac]
theorem Ay.range {w : World} {b o n : Nat} {g : Nat → Nat} (h : Ay w b o n g) : w.rangeAt b o (ac g n) := by
  intro j v hj
  have hj' : j < n := by have := (List.getElem?_eq_some_iff.1 hj).1; rwa [ac_len] at this
  rw [ac_get hj'] at hj
  rw [← hj]
  exact (h.2.2 j hj').1
theorem Ay.there {w : World} {b o n : Nat} {g : Nat → Nat} (h : Ay w b o n g) : w.there b o n := by
  intro j hj
  rw [(h.2.2 j hj).1]
  exact ⟨rfl, (h.2.2 j hj).2⟩
theorem belowCells {B : Nat} {w0 : World} (b : Nat) (hb : B ≤ b) : ∀ (vs : List Value) (o : Nat) (w : World), Below B w0 w → Below B w0 (w.setCells b o vs)
  | [], _, _, h => h
  | v :: r, o, w, h => by
    rw [World.setCells]
    exact belowCells b hb r (o + 1) _ (h.setCell hb v)
theorem Ay.mk_cells {w : World} {b o n : Nat} {g : Nat → Nat} (hb : b < w.heap.size) (ht : w.there b o n) (hg : ∀ i, i < n → g i < 256) : Ay (w.setCells b o (ac g n)) b o n g := by
  have hl := ac_len g n
  have hr := World.rangeAt_setCells_same w b o (ac g n) (by rw [hl]; exact ht)
  have hh := World.there_setCells ht b o (ac g n)
  refine ⟨Nat.lt_of_lt_of_le hb (belowCells (B := 0) b (Nat.zero_le _) (ac g n) o w (Below.refl _ _)).size, hg, fun i hi => ⟨?_, ?_⟩⟩
  · exact hr i _ (ac_get hi)
  · exact (hh i hi).2
/-- another array is as it was. -/
theorem Ay.apart {w : World} {b o n : Nat} {g : Nat → Nat} (h : Ay w b o n g) (b' o' : Nat) (vs : List Value) (hap : b ≠ b' ∨ o + n ≤ o' ∨ o' + vs.length ≤ o) : Ay (w.setCells b' o' vs) b o n g := by
  have hr := World.rangeAt_setCells_apart h.range b' o' vs (by rw [ac_len]; exact hap)
  have hh := World.there_setCells h.there b' o' vs
  refine ⟨Nat.lt_of_lt_of_le h.1 (belowCells (B := 0) b' (Nat.zero_le _) vs o' w (Below.refl _ _)).size, h.2.1, fun i hi => ⟨?_, ?_⟩⟩
  · exact hr i _ (ac_get hi)
  · exact (hh i hi).2
theorem Ay.other {w : World} {b o n : Nat} {g : Nat → Nat} (h : Ay w b o n g) {b' : Nat} (hb : b ≠ b') (i : Nat) (v : Value) : Ay (w.setCell ⟨b', i, none⟩ v) b o n g := by
  have := h.apart b' i [v] (.inl hb)
  simpa [World.setCells] using this
theorem run_store_ac {P : Program} {w : World} {b o n : Nat} (ht : w.there b o n) (g : Nat → Nat) : (storeCells ⟨b, o, none⟩ (ac g n)).run P w = .ok () (w.setCells b o (ac g n)) := by
  have h := run_storeCells_cells (P := P) b o (ac g n) 0 w (fun j hj => by simpa using (ht j (by rwa [ac_len] at hj)).1) (fun j hj => by simpa using (ht j (by rwa [ac_len] at hj)).2)
    (fun v hv => (Array.all_eq_true_iff_forall_mem.1 (ac_one g n)) v (by simpa using hv))
  simpa using h
theorem results_cell_mid {P : Program} {fn : Func} {p : Tmp} {ty : TypeId} (h : fn.results = #[.cell p ty]) (tmps : Array Value) (w : World) (b : Nat) (cs : List Value) (d : TypeDesc)
    (hp : tmps.getD p undef = .pointer (some ⟨b, 0, none⟩)) (hc : w.rangeAt b 0 cs)
    (hu : P.underlying ty = some d) (hd : d.isRow = true) (hi : (P.info? ty).map (·.size) = some cs.length) :
    (results fn tmps).run P w = .ok (.agg cs.toArray) w := by
  have hp' : tmps[p]?.getD undef = .pointer (some ⟨b, 0, none⟩) := by simpa using hp
  simp [results, h, hp', asAddr, run_loadVar_mid w b 0 ty cs d hc hu hd hi]
theorem Ay.newC (w : World) (n : Nat) (g : Nat → Nat) (ty : TypeId) (hg : ∀ i, i < n → g i < 256) : Ay (w.alloc (.cells (ac g n).toArray ty)) w.heap.size 0 n g := by
  refine ⟨by simp, hg, fun i hi => ⟨?_, by simp [go_sem]⟩⟩
  rw [World.cell?_alloc_mark w _ _ (0, 0) _]
  simpa using ac_get hi
theorem Ay.new0 (w : World) (n : Nat) (ty : TypeId) : Ay (w.alloc (.cells (Array.replicate n (.int .u8 0)) ty)) w.heap.size 0 n (fun _ => 0) := by
  refine ⟨by simp, fun _ _ => by simp, fun i hi => ⟨?_, by simp [go_sem]⟩⟩
  rw [World.cell?_alloc_mark w _ _ (0, 0) _]
  simp [hi]
theorem sz_alloc (w : World) (o : Obj) : (w.alloc o).heap.size = w.heap.size + 1 := by simp
theorem info_blk : (Tryd.prog.info? 72).map (·.size) = some 16 := by kernel_rfl

set_option maxRecDepth 100000 in
set_option maxHeartbeats 2000000 in
theorem plus_c (f g : Nat → Nat) (w : World) (hf : ∀ i, i < 16 → f i < 256) (hg : ∀ i, i < 16 → g i < 256) :
    Calls Tryd.prog 44 #[.agg (ac f 16).toArray, .agg (ac g 16).toArray] w fun e w' => e = .returned (.agg (ac (xr f g) 16).toArray) ∧ Below w.heap.size w w' := by
  have WS := Lib.hid (balloc (balloc (balloc (brefl w) (.cells (ac f 16).toArray 72)) (.cells (ac g 16).toArray 72)) (.cells #[.int .u8 0, .int .u8 0, .int .u8 0, .int .u8 0, .int .u8 0, .int .u8 0, .int .u8 0, .int .u8 0, .int .u8 0, .int .u8 0, .int .u8 0, .int .u8 0, .int .u8 0, .int .u8 0, .int .u8 0, .int .u8 0] 72))
  have A0 := Lib.hid (((Ay.newC w 16 f 72 hf).below (balloc (brefl _) (.cells (ac g 16).toArray 72))).below (balloc (brefl _) (.cells #[.int .u8 0, .int .u8 0, .int .u8 0, .int .u8 0, .int .u8 0, .int .u8 0, .int .u8 0, .int .u8 0, .int .u8 0, .int .u8 0, .int .u8 0, .int .u8 0, .int .u8 0, .int .u8 0, .int .u8 0, .int .u8 0] 72)))
  have B0 := Lib.hid ((Ay.newC (w.alloc (.cells (ac f 16).toArray 72)) 16 g 72 hg).below (balloc (brefl _) (.cells #[.int .u8 0, .int .u8 0, .int .u8 0, .int .u8 0, .int .u8 0, .int .u8 0, .int .u8 0, .int .u8 0, .int .u8 0, .int .u8 0, .int .u8 0, .int .u8 0, .int .u8 0, .int .u8 0, .int .u8 0, .int .u8 0] 72)))
  have R0 := Lib.hid (Ay.new0 ((w.alloc (.cells (ac f 16).toArray 72)).alloc (.cells (ac g 16).toArray 72)) 16 72)
  rw [sz_alloc] at B0
  rw [sz_alloc, sz_alloc] at R0
  replace R0 : Hid (Ay (((w.alloc (.cells (ac f 16).toArray 72)).alloc (.cells (ac g 16).toArray 72)).alloc (.cells #[.int .u8 0, .int .u8 0, .int .u8 0, .int .u8 0, .int .u8 0, .int .u8 0, .int .u8 0, .int .u8 0, .int .u8 0, .int .u8 0, .int .u8 0, .int .u8 0, .int .u8 0, .int .u8 0, .int .u8 0, .int .u8 0] 72)) (w.heap.size + 1 + 1) 0 16 (fun _ => 0)) := R0
  have HF := Lib.hid hf
  have HG := Lib.hid hg
  clear hf hg
  go_enter Tryd.func44, Tryd.ntmps44
  go_wp2_with fail
  generalize (((w.alloc (.cells (ac f 16).toArray 72)).alloc (.cells (ac g 16).toArray 72)).alloc (.cells #[.int .u8 0, .int .u8 0, .int .u8 0, .int .u8 0, .int .u8 0, .int .u8 0, .int .u8 0, .int .u8 0, .int .u8 0, .int .u8 0, .int .u8 0, .int .u8 0, .int .u8 0, .int .u8 0, .int .u8 0, .int .u8 0] 72)) = W0 at *
  go_loopw [6] (fun i wr => ∃ k : Nat, k ≤ 16 ∧ i = .int .i64 k ∧ Ay wr w.heap.size 0 16 (fun i => if i < k then xr f g i else f i) ∧ Ay wr (w.heap.size + 1) 0 16 g ∧ Ay wr (w.heap.size + 1 + 1) 0 16 (fun _ => 0) ∧ Below w.heap.size W0 wr) (fun i _ => 16 - (intOf i).toNat)
  case atStart => exact ⟨0, by omega, rfl, A0.out.eq (by simp), B0.out, R0.out, Below.refl _ _⟩
  case round =>
    obtain ⟨k, hk, rfl, ar, br, rr, hb⟩ := hrel
    rename World => wr
    have AR := Lib.hid ar
    have BR := Lib.hid br
    have RR := Lib.hid rr
    have BB := Lib.hid hb
    clear ar br rr hb
    by_cases c : k < 16
    · have e0 : decide ((k : Int) < 16) = true := by rw [decide_eq_true_iff]; omega
      obtain ⟨a1, a2⟩ := AR.out.at c
      obtain ⟨b1, b2⟩ := BR.out.at c
      simp only [Nat.lt_irrefl, if_false] at a1
      have XO := xor8 (f k) (g k) (HF.out k c) (HG.out k c)
      have VL := lt_xor8 (HF.out k c) (HG.out k c)
      have ST := Lib.hid (AR.out.set0 k (f k ^^^ g k) c VL)
      have XE : Hid (xr f g k = f k ^^^ g k) := rfl
      have f1 := HF.out k c
      have g1 := HG.out k c
      generalize f k ^^^ g k = z at *
      generalize f k = x at *
      generalize g k = y at *
      have k0 : (0 : Int) ≤ (k : Int) := by omega
      have k1 : (k : Int) < 16 := by omega
      go_wp2_with fail
      go_region
      go_wp2_with fail
      go_roundw
      case rel => exact ⟨k + 1, by omega, by go_num, (ST.out.below (bdrew1 _ _)).eq (fun i hi => by unfold up; by_cases e : i = k <;> by_cases e' : i < k <;> simp [e, e', XE.out] <;> omega), ((BR.out.other (by omega) k _).below (bdrew1 _ _)), ((RR.out.other (by omega) k _).below (bdrew1 _ _)), (BB.out.setCell (Nat.le_refl _) _).trans (bdrew1 _ _)⟩
      case measure => simp [intOf]; omega
    · have e0 : decide ((k : Int) < 16) = false := by rw [decide_eq_false_iff_not]; omega
      obtain rfl : k = 16 := by omega
      have AW := Lib.hid (AR.out.eq (g' := xr f g) (fun i hi => by simp [hi]))
      have VL : ∀ i, i < 16 → xr f g i < 256 := AW.out.2.1
      have FI := Lib.hid (Ay.mk_cells (g := xr f g) RR.out.1 RR.out.there VL)
      have FB := Lib.hid (belowCells (B := w.heap.size) (w.heap.size + 1 + 1) (by omega) (ac (xr f g) 16) 0 wr (WS.out.trans BB.out))
      have SE := run_store_ac (P := Tryd.prog) RR.out.there (xr f g)
      go_wp2_with (refine wpList_load_mid rfl 72 _ rfl _ 0 rfl (ac (xr f g) 16) _ AW.out.range Tryd.underlying72 rfl (by rw [ac_len]; exact info_blk) ?_)
      refine bodyPost_ret (v := .agg (ac (xr f g) 16).toArray) (results_cell_mid rfl _ _ (w.heap.size + 1 + 1) _ _ rfl FI.out.range Tryd.underlying72 rfl (by rw [ac_len]; exact info_blk)) rfl ⟨rfl, FB.out⟩
end Go.Proofs.YtbbcgcfahaljoaaDoor.Ae
namespace Go.Proofs.YtbbcgcfahaljoaaDoor.Ae
open Go.RowKit By
set_option linter.unusedVariables false
set_option linter.unusedSimpArgs false

theorem double_c (x : Nat) (w : World) (hx : x < 256) :
    Calls Tryd.prog 66 #[.int .u8 x] w fun e w' => e = .returned (.int .u8 (xt x)) ∧ w' = w := by
  have XT : Hid (xt x = if 128 ≤ x then (x * 2 % 256) ^^^ 27 else x * 2) := rfl
  have k0 : (0 : Int) ≤ (x : Int) := by omega
  have k1 : (x : Int) < 256 := by omega
  by_cases c : 128 ≤ x
  · have e : (x : Int) / 128 = 1 := by omega
    have XO := xor8 (x * 2 % 256) 27 (by omega) (by omega)
    rw [show ((27 : Nat) : Int) = 27 from rfl, show ((x * 2 % 256 : Nat) : Int) = (x : Int) * 2 % 256 from by omega] at XO
    go_enter Tryd.func66, Tryd.ntmps66
    go_wp2_with fail
    go_ret
    exact ⟨by rw [XT.out, if_pos c]; rfl, rfl⟩
  · have e : (x : Int) / 128 = 0 := by omega
    have e2 : (x : Int) * 2 % 256 = (x : Int) * 2 := by omega
    have XO := xor8 (x * 2) 0 (by omega) (by omega)
    rw [show ((0 : Nat) : Int) = 0 from rfl, show ((x * 2 : Nat) : Int) = (x : Int) * 2 from by omega, Nat.xor_zero] at XO
    go_enter Tryd.func66, Tryd.ntmps66
    go_wp2_with fail
    go_ret
    exact ⟨by rw [XT.out, if_neg c]; simp, rfl⟩

/-- turned to the left by n bits. -/
def rl (x n : Nat) : Nat := (x * 2 ^ n % 256) ||| (x / 2 ^ (8 - n))
theorem rl_lt {x : Nat} (n : Nat) (hx : x < 256) : rl x n < 256 :=
  Nat.or_lt_two_pow (n := 8) (by omega) (Nat.lt_of_le_of_lt (Nat.div_le_self _ _) hx)
theorem rotl8_c (x n : Nat) (w : World) (hx : x < 256) (h1 : 1 ≤ n) (h2 : n ≤ 4) :
    Calls Tryd.prog 79 #[.int .u8 x, .int .i64 n] w fun e w' => e = .returned (.int .u8 (rl x n)) ∧ w' = w := by
  have k0 : (0 : Int) ≤ (x : Int) := by omega
  have k1 : (x : Int) < 256 := by omega
  have O := or8 (x * 2 ^ n % 256) (x / 2 ^ (8 - n)) (by omega) (Nat.lt_of_le_of_lt (Nat.div_le_self _ _) hx)
  have h : n = 1 ∨ n = 2 ∨ n = 3 ∨ n = 4 := by omega
  rcases h with rfl | rfl | rfl | rfl
  · have A : bits BinOp.and IntKind.u64 1 7 = 1 := by decide
    rw [show ((x * 2 ^ 1 % 256 : Nat) : Int) = (x : Int) * 2 % 256 from by omega, show ((x / 2 ^ (8 - 1) : Nat) : Int) = (x : Int) / 128 from by omega] at O
    go_enter Tryd.func79, Tryd.ntmps79
    go_wp2_with fail
    go_ret
    exact ⟨rfl, rfl⟩
  · have A : bits BinOp.and IntKind.u64 2 7 = 2 := by decide
    rw [show ((x * 2 ^ 2 % 256 : Nat) : Int) = (x : Int) * 4 % 256 from by omega, show ((x / 2 ^ (8 - 2) : Nat) : Int) = (x : Int) / 64 from by omega] at O
    go_enter Tryd.func79, Tryd.ntmps79
    go_wp2_with fail
    go_ret
    exact ⟨rfl, rfl⟩
  · have A : bits BinOp.and IntKind.u64 3 7 = 3 := by decide
    rw [show ((x * 2 ^ 3 % 256 : Nat) : Int) = (x : Int) * 8 % 256 from by omega, show ((x / 2 ^ (8 - 3) : Nat) : Int) = (x : Int) / 32 from by omega] at O
    go_enter Tryd.func79, Tryd.ntmps79
    go_wp2_with fail
    go_ret
    exact ⟨rfl, rfl⟩
  · have A : bits BinOp.and IntKind.u64 4 7 = 4 := by decide
    rw [show ((x * 2 ^ 4 % 256 : Nat) : Int) = (x : Int) * 16 % 256 from by omega, show ((x / 2 ^ (8 - 4) : Nat) : Int) = (x : Int) / 16 from by omega] at O
    go_enter Tryd.func79, Tryd.ntmps79
    go_wp2_with fail
    go_ret
    exact ⟨rfl, rfl⟩

/-- S of the byte whose inverse is v. -/
def sc (v : Nat) : Nat := v ^^^ rl v 1 ^^^ rl v 2 ^^^ rl v 3 ^^^ rl v 4 ^^^ 99
theorem sc_lt {v : Nat} (h : v < 256) : sc v < 256 :=
  lt_xor8 (lt_xor8 (lt_xor8 (lt_xor8 (lt_xor8 h (rl_lt 1 h)) (rl_lt 2 h)) (rl_lt 3 h)) (rl_lt 4 h)) (by omega)
theorem scattered_c (v : Nat) (w : World) (hv : v < 256) :
    Calls Tryd.prog 77 #[.int .u8 v] w fun e w' => e = .returned (.int .u8 (sc v)) ∧ w' = w := by
  have R := Lib.hid (fun n w (h1 : 1 ≤ n) (h2 : n ≤ 4) => rotl8_c v n w hv h1 h2)
  have l1 := rl_lt 1 hv
  have l2 := rl_lt 2 hv
  have l3 := rl_lt 3 hv
  have l4 := rl_lt 4 hv
  have X1 := xor8 v (rl v 1) hv l1
  have X2 := xor8 _ (rl v 2) (lt_xor8 hv l1) l2
  have X3 := xor8 _ (rl v 3) (lt_xor8 (lt_xor8 hv l1) l2) l3
  have X4 := xor8 _ (rl v 4) (lt_xor8 (lt_xor8 (lt_xor8 hv l1) l2) l3) l4
  have X5 := xor8 _ 99 (lt_xor8 (lt_xor8 (lt_xor8 (lt_xor8 hv l1) l2) l3) l4) (by omega)
  rw [show ((99 : Nat) : Int) = 99 from rfl] at X5
  have SE : Hid (sc v = v ^^^ rl v 1 ^^^ rl v 2 ^^^ rl v 3 ^^^ rl v 4 ^^^ 99) := rfl
  generalize v ^^^ rl v 1 ^^^ rl v 2 ^^^ rl v 3 ^^^ rl v 4 ^^^ 99 = z5 at *
  generalize v ^^^ rl v 1 ^^^ rl v 2 ^^^ rl v 3 ^^^ rl v 4 = z4 at *
  generalize v ^^^ rl v 1 ^^^ rl v 2 ^^^ rl v 3 = z3 at *
  generalize v ^^^ rl v 1 ^^^ rl v 2 = z2 at *
  generalize v ^^^ rl v 1 = z1 at *
  go_enter Tryd.func77, Tryd.ntmps77
  go_wp2_with fail
  refine (R.out 1 _ (by omega) (by omega)).mono ?_
  rintro e w1 ⟨rfl, rfl⟩
  go_wp2_with fail
  refine (R.out 2 _ (by omega) (by omega)).mono ?_
  rintro e w2 ⟨rfl, rfl⟩
  go_wp2_with fail
  refine (R.out 3 _ (by omega) (by omega)).mono ?_
  rintro e w3 ⟨rfl, rfl⟩
  go_wp2_with fail
  refine (R.out 4 _ (by omega) (by omega)).mono ?_
  rintro e w4 ⟨rfl, rfl⟩
  go_wp2_with fail
  go_ret
  exact ⟨by rw [SE.out]; rfl, rfl⟩

/-- the powers of 3. -/
def p3 : Nat → Nat
  | 0 => 1
  | i + 1 => p3 i ^^^ xt (p3 i)
theorem p3_lt : ∀ i, p3 i < 256
  | 0 => by simp [p3]
  | i + 1 => lt_xor8 (p3_lt i) (xt_lt (p3_lt i))
/-- the table of S, as far as k powers are in it. -/
def tS : Nat → Nat → Nat
  | 0 => up (fun _ => 0) 0 (sc 0)
  | k + 1 => up (tS k) (p3 k) (sc (p3 ((255 - k) % 255)))
set_option maxRecDepth 100000 in
theorem tS_sbox : ∀ i, i < 256 → tS 255 i = sbox i := by decide +kernel
end Go.Proofs.YtbbcgcfahaljoaaDoor.Ae
namespace Go.Proofs.YtbbcgcfahaljoaaDoor.Ae
open Go.RowKit By
set_option linter.unusedVariables false
set_option linter.unusedSimpArgs false

theorem info_255 : (Tryd.prog.info? 103).map (·.size) = some 255 := by kernel_rfl
theorem info_256 : (Tryd.prog.info? 92).map (·.size) = some 256 := by kernel_rfl
def zs (n : Nat) : Array Value := Array.replicate n (.int .u8 0)
theorem zv_of {t : TypeId} {n : Nat} (h : (Tryd.prog.info? t).map (·.zero) = some (some (Value.agg (zs n)))) (w : World) : (zeroValue t).run Tryd.prog w = .ok (.agg (zs n)) w := by
  cases hq : Tryd.prog.info? t with
  | none => simp [hq] at h
  | some i =>
    have : i.zero = some (Value.agg (zs n)) := by simpa [hq] using h
    simp [zeroValue, typeInfo, hq, this]
theorem zv_256 (w : World) : (zeroValue 92).run Tryd.prog w = .ok (.agg (zs 256)) w := zv_of (by kernel_rfl) w
theorem zv_255 (w : World) : (zeroValue 103).run Tryd.prog w = .ok (.agg (zs 255)) w := zv_of (by kernel_rfl) w
theorem run_idx {t e : TypeId} {n : Nat} (hu : Tryd.prog.underlying t = some (.array n e)) (he : Tryd.prog.underlying e = some (.int .u8)) (hs : (Tryd.prog.info? e).map (·.size) = some 1) (g : Nat → Nat) (k : Nat) (hk : k < n) (w : World) :
    (Instr.index t (.agg (ac g n).toArray) (.int .i64 (k : Int))).run Tryd.prog w = .ok (.int .u8 (g k)) w := by
  cases hq : Tryd.prog.info? e with
  | none => simp [hq] at hs
  | some i =>
    have hi : i.size = 1 := by simpa [hq] using hs
    have hg : (ac g n)[k]? = some (.int .u8 ((g k : Nat) : Int)) := ac_get hk
    simp [Instr.index, asIntOf, run_underlying hu, run_underlying he, part, isAgg, sizeOf, typeInfo, hq, hi, hk, hg]
theorem Ay.newA (w : World) (n : Nat) (g : Nat → Nat) (A : Array Value) (ty : TypeId) (hg : ∀ i, i < n → g i < 256) (hA : ∀ i, i < n → A[i]? = some (.int .u8 (g i))) : Ay (w.alloc (.cells A ty)) w.heap.size 0 n g := by
  refine ⟨by simp, hg, fun i hi => ⟨?_, by simp [go_sem]⟩⟩
  rw [World.cell?_alloc_mark w _ _ (0, 0) _]
  simpa using hA i hi
theorem tS_lt : ∀ k i, tS k i < 256
  | 0, i => by
    show up _ _ _ i < _
    unfold up
    split
    · exact sc_lt (by omega)
    · simp
  | k + 1, i => by
    show up _ _ _ i < _
    unfold up
    split
    · exact sc_lt (p3_lt _)
    · exact tS_lt k i

set_option maxRecDepth 100000 in
set_option maxHeartbeats 4000000 in
theorem substitutes_c (w : World) :
    Calls Tryd.prog 64 #[] w fun e w' => e = .returned (.agg (ac sbox 256).toArray) ∧ Below w.heap.size w w' := by
  have DB := Lib.hid (fun x w (hx : x < 256) => double_c x w hx)
  have SC := Lib.hid (fun x w (hx : x < 256) => scattered_c x w hx)
  have Z1 := zv_256
  have Z2 := zv_255
  have WS := Lib.hid (balloc (balloc (brefl w) (.cells (zs 256) 92)) (.cells (zs 255) 103))
  have R0 := Lib.hid ((Ay.new0 w 256 92).below (balloc (brefl _) (.cells (zs 255) 103)))
  have P0 := Lib.hid (Ay.new0 (w.alloc (.cells (zs 256) 92)) 255 103)
  rw [sz_alloc] at P0
  replace R0 : Hid (Ay ((w.alloc (.cells (zs 256) 92)).alloc (.cells (zs 255) 103)) w.heap.size 0 256 (fun _ => 0)) := R0
  replace P0 : Hid (Ay ((w.alloc (.cells (zs 256) 92)).alloc (.cells (zs 255) 103)) (w.heap.size + 1) 0 255 (fun _ => 0)) := P0
  go_enter Tryd.func64, Tryd.ntmps64
  go_wp2_with fail
  generalize (w.alloc (.cells (zs 256) 92)).alloc (.cells (zs 255) 103) = W0 at *
  go_loopw [2, 7] (fun p i wr => ∃ k : Nat, k ≤ 255 ∧ i = .int .i64 k ∧ p = .int .u8 (p3 k) ∧ Ay wr (w.heap.size + 1) 0 255 (fun i => if i < k then p3 i else 0) ∧ Ay wr w.heap.size 0 256 (fun _ => 0) ∧ Below w.heap.size W0 wr) (fun _ i _ => 255 - (intOf i).toNat)
  case atStart => exact ⟨0, by omega, rfl, rfl, P0.out.eq (by simp), R0.out, Below.refl _ _⟩
  case round =>
    obtain ⟨k, hk, rfl, rfl, ar, rr, hb⟩ := hrel
    rename World => wr
    have AR := Lib.hid ar
    have RR := Lib.hid rr
    have BB := Lib.hid hb
    clear ar rr hb
    by_cases c : k < 255
    · have e0 : decide ((k : Int) < 255) = true := by rw [decide_eq_true_iff]; omega
      obtain ⟨a1, a2⟩ := AR.out.at c
      have VL := p3_lt k
      have X0 := xt_lt VL
      have XO := xor8 (p3 k) (xt (p3 k)) VL X0
      have NX : Hid (p3 (k + 1) = p3 k ^^^ xt (p3 k)) := rfl
      have ST := Lib.hid (AR.out.set0 k (p3 k) c VL)
      have D1 := Lib.hid (fun w => DB.out (p3 k) w VL)
      have NX2 := Lib.hid NX.out
      have PE : Hid (∃ q, q = p3 k) := ⟨_, rfl⟩
      obtain ⟨q, hq⟩ := PE.out
      rw [← NX.out] at XO
      rw [← hq] at XO ST D1 VL X0
      have HQ := Lib.hid hq
      clear PE NX
      rw [← hq]
      clear hq
      obtain ⟨z, hz⟩ : ∃ z, z = p3 (k + 1) := ⟨_, rfl⟩
      rw [← hz] at XO
      have NZ := Lib.hid hz
      clear hz NX2
      have k0 : (0 : Int) ≤ (k : Int) := by omega
      have k1 : (k : Int) < 255 := by omega
      go_wp2_with fail
      refine (D1.out _).mono ?_
      rintro e w' ⟨rfl, rfl⟩
      go_wp2_with fail
      exact ⟨⟨k + 1, by omega, by go_num, by rw [NZ.out], ST.out.eq (fun i hi => by unfold up; by_cases e : i = k <;> by_cases e' : i < k <;> simp [e, e', HQ.out] <;> omega), RR.out.other (by omega) k _, BB.out.setCell (by show w.heap.size ≤ w.heap.size + 1; omega) _⟩, by simp [intOf]; omega⟩
    · have e0 : decide ((k : Int) < 255) = false := by rw [decide_eq_false_iff_not]; omega
      obtain rfl : k = 255 := by omega
      have AW := Lib.hid (AR.out.eq (g' := p3) (fun i hi => by simp [hi]))
      have SC0 := Lib.hid (fun w => SC.out 0 w (by omega))
      have S0 : Hid (Ay (wr.alloc (.cells ((zs 256).setIfInBounds 0 (.int .u8 (sc 0))) 92)) wr.heap.size 0 256 (tS 0)) := Lib.hid (Ay.newA wr 256 (tS 0) _ _ (fun i _ => tS_lt 0 i) (fun i hi => by
        show _ = some (Value.int .u8 ((up (fun _ => 0) 0 (sc 0) i : Nat) : Int))
        unfold up zs
        by_cases e : i = 0
        · subst e; simp
        · rw [if_neg e, Array.getElem?_setIfInBounds, if_neg (fun q => e q.symm)]
          simp [hi]))
      have L1 := AW.out.1
      have L2 := RR.out.1
      have B1 : Below wr.heap.size wr (wr.alloc (.cells ((zs 256).setIfInBounds 0 (.int .u8 (sc 0))) 92)) := balloc (brefl wr) _
      have PW := Lib.hid (AW.out.below B1)
      have RW := Lib.hid (RR.out.below B1)
      have BW := Lib.hid ((WS.out.trans BB.out).trans (B1.mono (Nat.le_of_lt L2)))
      clear B1 BB
      go_wp2_with fail
      refine (SC0.out _).mono ?_
      rintro e w' ⟨rfl, rfl⟩
      go_wp2_with fail
      refine wp_load_mid 103 _ rfl _ 0 rfl (ac p3 255) _ PW.out.range Tryd.underlying103 rfl (by rw [ac_len]; exact info_255) ?_
      go_wp2_with fail
      generalize wr.alloc (.cells ((zs 256).setIfInBounds 0 (.int .u8 (sc 0))) 92) = W1 at *
      generalize wr.heap.size = g at *
      go_loopw [21] (fun i w2 => ∃ k : Nat, k ≤ 255 ∧ i = .int .i64 k ∧ Ay w2 g 0 256 (tS k) ∧ Ay w2 (w.heap.size + 1) 0 255 p3 ∧ Ay w2 w.heap.size 0 256 (fun _ => 0) ∧ Below w.heap.size w w2) (fun i _ => 255 - (intOf i).toNat)
      case atStart => exact ⟨0, by omega, rfl, S0.out, PW.out, RW.out, BW.out⟩
      case round =>
        obtain ⟨k, hk, rfl, sr, pr, rr, hb⟩ := hrel
        rename World => w2
        have SR := Lib.hid sr
        have PR := Lib.hid pr
        have R2 := Lib.hid rr
        have BB := Lib.hid hb
        clear sr pr rr hb
        by_cases c : k < 255
        · have e0 : decide ((k : Int) < 255) = true := by rw [decide_eq_true_iff]; omega
          have IX := run_idx Tryd.underlying103 Tryd.underlying5 (by kernel_rfl) p3 k c
          have ql : (255 - k) % 255 < 255 := Nat.mod_lt _ (by omega)
          obtain ⟨p1, p2⟩ := PR.out.at ql
          obtain ⟨s1, s2⟩ := SR.out.at (p3_lt k)
          have NX : Hid (tS (k + 1) = up (tS k) (p3 k) (sc (p3 ((255 - k) % 255)))) := rfl
          have VL := p3_lt ((255 - k) % 255)
          have ST : Hid (Ay (w2.setCell ⟨g, p3 k, none⟩ (.int .u8 (sc (p3 ((255 - k) % 255))))) g 0 256 (tS (k + 1))) := Lib.hid (by rw [NX.out]; exact SR.out.set0 (p3 k) _ (p3_lt k) (sc_lt VL))
          have S1 := Lib.hid (fun w => SC.out (p3 ((255 - k) % 255)) w VL)
          have IL := p3_lt k
          have d1 : (255 - (k : Int)).tmod 255 = (((255 - k) % 255 : Nat) : Int) := by rw [Int.tmod_eq_emod_of_nonneg (by omega)]; omega
          clear NX VL
          generalize sc (p3 ((255 - k) % 255)) = z at *
          generalize p3 ((255 - k) % 255) = y at *
          generalize (255 - k) % 255 = q at *
          generalize p3 k = x at *
          have k0 : (0 : Int) ≤ (k : Int) := by omega
          have k1 : (k : Int) < 255 := by omega
          have q1 : (q : Int) < 255 := by omega
          have x1 : (x : Int) < 256 := by omega
          go_wp2_with fail
          refine (S1.out _).mono ?_
          rintro e w' ⟨rfl, rfl⟩
          go_wp2_with fail
          exact ⟨⟨k + 1, by omega, by go_num, ST.out, PR.out.other (by omega) x _, R2.out.other (by omega) x _, BB.out.setCell (by show w.heap.size ≤ g; omega) _⟩, by simp [intOf]; omega⟩
        · have e0 : decide ((k : Int) < 255) = false := by rw [decide_eq_false_iff_not]; omega
          obtain rfl : k = 255 := by omega
          have AW := Lib.hid (SR.out.eq (g' := sbox) (fun i hi => tS_sbox i hi))
          have VL : ∀ i, i < 256 → sbox i < 256 := AW.out.2.1
          have FI := Lib.hid (Ay.mk_cells (g := sbox) R2.out.1 R2.out.there VL)
          have FB := Lib.hid (belowCells (B := w.heap.size) w.heap.size (Nat.le_refl _) (ac sbox 256) 0 w2 BB.out)
          have SE := run_store_ac (P := Tryd.prog) R2.out.there sbox
          go_wp2_with (refine wpList_load_mid rfl 92 _ rfl _ 0 rfl (ac sbox 256) _ AW.out.range Tryd.underlying92 rfl (by rw [ac_len]; exact info_256) ?_)
          refine bodyPost_ret (v := .agg (ac sbox 256).toArray) (results_cell_mid rfl _ _ w.heap.size _ _ rfl FI.out.range Tryd.underlying92 rfl (by rw [ac_len]; exact info_256)) rfl ⟨rfl, FB.out⟩
end Go.Proofs.YtbbcgcfahaljoaaDoor.Ae
namespace Go.Proofs.YtbbcgcfahaljoaaDoor.Ae
open Go.RowKit By
set_option linter.unusedVariables false
set_option linter.unusedSimpArgs false

set_option maxRecDepth 100000 in
set_option maxHeartbeats 2000000 in
theorem substituted_c (b : Nat) (f : Nat → Nat) (w : World) (C : Ay w b 0 256 sbox) (hf : ∀ i, i < 16 → f i < 256) :
    Calls Tryd.prog 67 #[.pointer (some ⟨b, 0, none⟩), .agg (ac f 16).toArray] w fun e w' => e = .returned (.agg (ac (mv f) 16).toArray) ∧ Below w.heap.size w w' := by
  have WS := Lib.hid (balloc (balloc (balloc (brefl w) (.cells (ac f 16).toArray 72)) (.cells #[.int .u8 0, .int .u8 0, .int .u8 0, .int .u8 0, .int .u8 0, .int .u8 0, .int .u8 0, .int .u8 0, .int .u8 0, .int .u8 0, .int .u8 0, .int .u8 0, .int .u8 0, .int .u8 0, .int .u8 0, .int .u8 0] 72)) (.cells #[.int .u8 0, .int .u8 0, .int .u8 0, .int .u8 0, .int .u8 0, .int .u8 0, .int .u8 0, .int .u8 0, .int .u8 0, .int .u8 0, .int .u8 0, .int .u8 0, .int .u8 0, .int .u8 0, .int .u8 0, .int .u8 0] 72))
  have A0 := Lib.hid (((Ay.newC w 16 f 72 hf).below (balloc (brefl _) (.cells #[.int .u8 0, .int .u8 0, .int .u8 0, .int .u8 0, .int .u8 0, .int .u8 0, .int .u8 0, .int .u8 0, .int .u8 0, .int .u8 0, .int .u8 0, .int .u8 0, .int .u8 0, .int .u8 0, .int .u8 0, .int .u8 0] 72))).below (balloc (brefl _) (.cells #[.int .u8 0, .int .u8 0, .int .u8 0, .int .u8 0, .int .u8 0, .int .u8 0, .int .u8 0, .int .u8 0, .int .u8 0, .int .u8 0, .int .u8 0, .int .u8 0, .int .u8 0, .int .u8 0, .int .u8 0, .int .u8 0] 72)))
  have R0 := Lib.hid ((Ay.new0 (w.alloc (.cells (ac f 16).toArray 72)) 16 72).below (balloc (brefl _) (.cells #[.int .u8 0, .int .u8 0, .int .u8 0, .int .u8 0, .int .u8 0, .int .u8 0, .int .u8 0, .int .u8 0, .int .u8 0, .int .u8 0, .int .u8 0, .int .u8 0, .int .u8 0, .int .u8 0, .int .u8 0, .int .u8 0] 72)))
  have N0 := Lib.hid (Ay.new0 ((w.alloc (.cells (ac f 16).toArray 72)).alloc (.cells #[.int .u8 0, .int .u8 0, .int .u8 0, .int .u8 0, .int .u8 0, .int .u8 0, .int .u8 0, .int .u8 0, .int .u8 0, .int .u8 0, .int .u8 0, .int .u8 0, .int .u8 0, .int .u8 0, .int .u8 0, .int .u8 0] 72)) 16 72)
  rw [sz_alloc] at R0
  rw [sz_alloc, sz_alloc] at N0
  replace R0 : Hid (Ay (((w.alloc (.cells (ac f 16).toArray 72)).alloc (.cells #[.int .u8 0, .int .u8 0, .int .u8 0, .int .u8 0, .int .u8 0, .int .u8 0, .int .u8 0, .int .u8 0, .int .u8 0, .int .u8 0, .int .u8 0, .int .u8 0, .int .u8 0, .int .u8 0, .int .u8 0, .int .u8 0] 72)).alloc (.cells #[.int .u8 0, .int .u8 0, .int .u8 0, .int .u8 0, .int .u8 0, .int .u8 0, .int .u8 0, .int .u8 0, .int .u8 0, .int .u8 0, .int .u8 0, .int .u8 0, .int .u8 0, .int .u8 0, .int .u8 0, .int .u8 0] 72)) (w.heap.size + 1) 0 16 (fun _ => 0)) := R0
  replace N0 : Hid (Ay (((w.alloc (.cells (ac f 16).toArray 72)).alloc (.cells #[.int .u8 0, .int .u8 0, .int .u8 0, .int .u8 0, .int .u8 0, .int .u8 0, .int .u8 0, .int .u8 0, .int .u8 0, .int .u8 0, .int .u8 0, .int .u8 0, .int .u8 0, .int .u8 0, .int .u8 0, .int .u8 0] 72)).alloc (.cells #[.int .u8 0, .int .u8 0, .int .u8 0, .int .u8 0, .int .u8 0, .int .u8 0, .int .u8 0, .int .u8 0, .int .u8 0, .int .u8 0, .int .u8 0, .int .u8 0, .int .u8 0, .int .u8 0, .int .u8 0, .int .u8 0] 72)) (w.heap.size + 1 + 1) 0 16 (fun _ => 0)) := N0
  have C0 := Lib.hid (C.below WS.out)
  have CL := C.1
  have HF := Lib.hid hf
  clear hf C
  go_enter Tryd.func67, Tryd.ntmps67
  go_wp2_with fail
  generalize (((w.alloc (.cells (ac f 16).toArray 72)).alloc (.cells #[.int .u8 0, .int .u8 0, .int .u8 0, .int .u8 0, .int .u8 0, .int .u8 0, .int .u8 0, .int .u8 0, .int .u8 0, .int .u8 0, .int .u8 0, .int .u8 0, .int .u8 0, .int .u8 0, .int .u8 0, .int .u8 0] 72)).alloc (.cells #[.int .u8 0, .int .u8 0, .int .u8 0, .int .u8 0, .int .u8 0, .int .u8 0, .int .u8 0, .int .u8 0, .int .u8 0, .int .u8 0, .int .u8 0, .int .u8 0, .int .u8 0, .int .u8 0, .int .u8 0, .int .u8 0] 72)) = W0 at *
  go_loopw [8] (fun i wr => ∃ k : Nat, k ≤ 16 ∧ i = .int .i64 k ∧ Ay wr w.heap.size 0 16 f ∧ Ay wr (w.heap.size + 1) 0 16 (fun _ => 0) ∧ Ay wr (w.heap.size + 1 + 1) 0 16 (fun i => if i < k then mv f i else 0) ∧ Ay wr b 0 256 sbox ∧ Below w.heap.size W0 wr) (fun i _ => 16 - (intOf i).toNat)
  case atStart => exact ⟨0, by omega, rfl, A0.out, R0.out, N0.out.eq (by simp), C0.out, Below.refl _ _⟩
  case round =>
    obtain ⟨k, hk, rfl, ar, rr, nr, cr, hb⟩ := hrel
    rename World => wr
    have AR := Lib.hid ar
    have RR := Lib.hid rr
    have NR := Lib.hid nr
    have CR := Lib.hid cr
    have BB := Lib.hid hb
    clear ar rr nr cr hb
    by_cases c : k < 16
    · have e0 : decide ((k : Int) < 16) = true := by rw [decide_eq_true_iff]; omega
      have ql : (k + 4 * (k % 4)) % 16 < 16 := by omega
      have ME : Hid (mv f k = sbox (f ((k + 4 * (k % 4)) % 16))) := by
        show sbox (f (k % 4 + 4 * ((k / 4 + k % 4) % 4))) = _
        rw [show k % 4 + 4 * ((k / 4 + k % 4) % 4) = (k + 4 * (k % 4)) % 16 from by omega]
      obtain ⟨a1, a2⟩ := AR.out.at ql
      have VL := HF.out _ ql
      obtain ⟨s1, s2⟩ := CR.out.at VL
      obtain ⟨n1, n2⟩ := NR.out.at c
      have ZL := sbox_lt (f ((k + 4 * (k % 4)) % 16))
      have ST := Lib.hid (NR.out.set0 k (sbox (f ((k + 4 * (k % 4)) % 16))) c ZL)
      have d1 : (k : Int).tmod 4 = ((k % 4 : Nat) : Int) := by rw [Int.tmod_eq_emod_of_nonneg (by omega)]; omega
      have d2 : ((k : Int) + 4 * ((k % 4 : Nat) : Int)).tmod 16 = (((k + 4 * (k % 4)) % 16 : Nat) : Int) := by rw [Int.tmod_eq_emod_of_nonneg (by omega)]; omega
      have r1 : k % 4 ≤ 3 := by omega
      simp only [Nat.lt_irrefl, if_false] at n1
      generalize sbox (f ((k + 4 * (k % 4)) % 16)) = z at *
      generalize f ((k + 4 * (k % 4)) % 16) = x at *
      generalize (k + 4 * (k % 4)) % 16 = q at *
      generalize k % 4 = r at *
      have k0 : (0 : Int) ≤ (k : Int) := by omega
      have k1 : (k : Int) < 16 := by omega
      have q1 : (q : Int) < 16 := by omega
      have x1 : (x : Int) < 256 := by omega
      go_wp2_with fail
      go_region
      go_wp2_with fail
      go_roundw
      case rel => exact ⟨k + 1, by omega, by go_num, (AR.out.other (by omega) k _).below (bdrew1 _ _), (RR.out.other (by omega) k _).below (bdrew1 _ _), (ST.out.below (bdrew1 _ _)).eq (fun i hi => by unfold up; by_cases e : i = k <;> by_cases e' : i < k <;> simp [e, e', ME.out] <;> omega), (CR.out.other (by omega) k _).below (bdrew1 _ _), (BB.out.setCell (by show w.heap.size ≤ w.heap.size + 1 + 1; omega) _).trans (bdrew1 _ _)⟩
      case measure => simp [intOf]; omega
    · have e0 : decide ((k : Int) < 16) = false := by rw [decide_eq_false_iff_not]; omega
      obtain rfl : k = 16 := by omega
      have AW := Lib.hid (NR.out.eq (g' := mv f) (fun i hi => by simp [hi]))
      have VL : ∀ i, i < 16 → mv f i < 256 := AW.out.2.1
      have FI := Lib.hid (Ay.mk_cells (g := mv f) RR.out.1 RR.out.there VL)
      have FB := Lib.hid (belowCells (B := w.heap.size) (w.heap.size + 1) (by omega) (ac (mv f) 16) 0 wr (WS.out.trans BB.out))
      have SE := run_store_ac (P := Tryd.prog) RR.out.there (mv f)
      go_wp2_with (refine wpList_load_mid rfl 72 _ rfl _ 0 rfl (ac (mv f) 16) _ AW.out.range Tryd.underlying72 rfl (by rw [ac_len]; exact info_blk) ?_)
      refine bodyPost_ret (v := .agg (ac (mv f) 16).toArray) (results_cell_mid rfl _ _ (w.heap.size + 1) _ _ rfl FI.out.range Tryd.underlying72 rfl (by rw [ac_len]; exact info_blk)) rfl ⟨rfl, FB.out⟩
end Go.Proofs.YtbbcgcfahaljoaaDoor.Ae

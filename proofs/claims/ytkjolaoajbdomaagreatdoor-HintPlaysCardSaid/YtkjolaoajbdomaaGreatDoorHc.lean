/-
  The contracts of the leaf functions of package hash: bits.RotateLeft32, rotateRight, md5Mix, bitCount, appendLowFirst, appendHighFirst.
  Conditions: the arguments are of their kinds; rotations go from 1 to 31.
  An array of words in memory, written place by place, read and stored whole; the contract of hash.md5Words.
  Conditions: a block of 64 bytes is handed in.
  SHA-256's schedule in numbers; the contract of hash.sha256Words.
  Conditions: a block of 64 bytes is handed in.
-/
import Derived.Test.YtkjolaoajbdomaaGreatDoorHb
import Derived.Deep.MidRow
import Derived.BigRegion
namespace Go.Proofs.YtkjolaoajbdomaaGreatDoor.Hs
open Go.RowKit
set_option linter.unusedVariables false
set_option linter.unusedSimpArgs false

theorem and31 (a : Int) : bits BinOp.and IntKind.u64 a 31 = a % 32 := by
  have e : (BitVec.ofInt 64 a &&& BitVec.ofInt 64 31).toNat = (a % 32).toNat := by
    rw [BitVec.toNat_and, BitVec.toNat_ofInt, BitVec.toNat_ofInt]
    have h : ((31 : Int) % ((2 ^ 64 : Nat) : Int)).toNat = 2 ^ 5 - 1 := by decide
    rw [h, Nat.and_two_pow_sub_one_eq_mod]
    omega
  show IntKind.u64.wrap ((BitVec.ofInt 64 a &&& BitVec.ofInt 64 31).toNat : Int) = _
  rw [e]
  simp only [IntKind.wrap, IntKind.bits, IntKind.signed]
  simp
  omega

set_option maxHeartbeats 400000 in
theorem rotl_c (x n : Nat) (w : World) (hx : x < 4294967296) (h1 : 1 ≤ n) (h2 : n ≤ 31) :
    Calls Tryz.prog 113 #[.int .u32 x, .int .i64 n] w fun e w' => e = .returned (.int .u32 (rol x n)) ∧ w' = w := by
  have R := Lib.hid (rol_or x n hx h1 h2)
  have A : bits BinOp.and IntKind.u64 (n : Int) 31 = (n : Int) := by rw [and31]; omega
  have k1 : (0 : Int) ≤ (n : Int) := by omega
  have k2 : (n : Int) ≤ 31 := by omega
  have k3 : (0 : Int) ≤ (x : Int) := by omega
  have k4 : (x : Int) < 4294967296 := by omega
  go_enter Tryz.func113, Tryz.ntmps113
  go_wp2_with fail
  go_ret
  refine ⟨ret_w ?_, rfl⟩
  rw [← R.out.1]
  simp
set_option maxHeartbeats 400000 in
theorem rotn_c (x n : Nat) (w : World) (hx : x < 4294967296) (h1 : 1 ≤ n) (h2 : n ≤ 31) :
    Calls Tryz.prog 113 #[.int .u32 x, .int .i64 (-(n : Int))] w fun e w' => e = .returned (.int .u32 (ror x n)) ∧ w' = w := by
  have R := Lib.hid (rol_or x (32 - n) hx (by omega) (by omega))
  have A : bits BinOp.and IntKind.u64 (IntKind.u64.wrap (-(n : Int))) 31 = ((32 - n : Nat) : Int) := by
    rw [and31]
    simp only [IntKind.wrap, IntKind.bits, IntKind.signed]
    simp
    omega
  have k1 : (1 : Int) ≤ (n : Int) := by omega
  have k2 : (n : Int) ≤ 31 := by omega
  have k3 : (0 : Int) ≤ (x : Int) := by omega
  have k4 : (x : Int) < 4294967296 := by omega
  go_enter Tryz.func113, Tryz.ntmps113
  go_wp2_with fail
  go_ret
  refine ⟨ret_w ?_, rfl⟩
  unfold ror
  rw [← R.out.1]
  simp
set_option maxRecDepth 100000 in
set_option maxHeartbeats 1000000 in
theorem md5Mix_c (i b c d : Nat) (w : World) (hi : i ≤ 63) (hb : b < 4294967296) (hc : c < 4294967296) (hd : d < 4294967296) :
    Calls Tryz.prog 112 #[.int .i64 i, .int .u32 b, .int .u32 c, .int .u32 d] w fun e w' => e = .returned (.tuple #[.int .u32 (mF i b c d), .int .i64 (mG i)]) ∧ w' = w := by
  have E := Lib.hid (step_eqs b c d hb hc hd)
  have E2 := Lib.hid (step_eqs d b c hd hb hc)
  have F : Hid (mF i b c d = if i < 16 then (b &&& c) ||| ((4294967295 ^^^ b) &&& d) else if i < 32 then (d &&& b) ||| ((4294967295 ^^^ d) &&& c) else if i < 48 then b ^^^ c ^^^ d else c ^^^ (b ||| (4294967295 ^^^ d))) := rfl
  have G : Hid (mG i = if i < 16 then i else if i < 32 then (5 * i + 1) % 16 else if i < 48 then (3 * i + 5) % 16 else 7 * i % 16) := rfl
  have k1 : (0 : Int) ≤ (i : Int) := by omega
  have k2 : (i : Int) ≤ 63 := by omega
  have s0 : IntKind.u32.signed = false := rfl
  have q1 : (5 * (i : Int) + 1).tmod 16 = (5 * (i : Int) + 1) % 16 := Int.tmod_eq_emod_of_nonneg (by omega)
  have q2 : (3 * (i : Int) + 5).tmod 16 = (3 * (i : Int) + 5) % 16 := Int.tmod_eq_emod_of_nonneg (by omega)
  have q3 : (7 * (i : Int)).tmod 16 = (7 * (i : Int)) % 16 := Int.tmod_eq_emod_of_nonneg (by omega)
  by_cases c0 : i < 16
  · have t0 : decide ((i : Int) < 16) = true := by simp; omega
    go_enter Tryz.func112, Tryz.ntmps112
    go_wp2_with fail
    go_ret2
    exact ⟨ret_wi (by rw [F.out, if_pos c0, E.out.1]) (by rw [G.out, if_pos c0]), rfl⟩
  · have t0 : decide ((i : Int) < 16) = false := by simp; omega
    by_cases c1 : i < 32
    · have t1 : decide ((i : Int) < 32) = true := by simp; omega
      go_enter Tryz.func112, Tryz.ntmps112
      go_wp2_with fail
      go_ret2
      exact ⟨ret_wi (by rw [F.out, if_neg c0, if_pos c1, E2.out.1]) (by rw [G.out, if_neg c0, if_pos c1]; omega), rfl⟩
    · have t1 : decide ((i : Int) < 32) = false := by simp; omega
      by_cases c2 : i < 48
      · have t2 : decide ((i : Int) < 48) = true := by simp; omega
        go_enter Tryz.func112, Tryz.ntmps112
        go_wp2_with fail
        go_ret2
        exact ⟨ret_wi (by rw [F.out, if_neg c0, if_neg c1, if_pos c2, E.out.2.1]) (by rw [G.out, if_neg c0, if_neg c1, if_pos c2]; omega), rfl⟩
      · have t2 : decide ((i : Int) < 48) = false := by simp; omega
        go_enter Tryz.func112, Tryz.ntmps112
        go_wp2_with fail
        go_ret2
        exact ⟨ret_wi (by rw [F.out, if_neg c0, if_neg c1, if_neg c2, E.out.2.2]) (by rw [G.out, if_neg c0, if_neg c1, if_neg c2]; omega), rfl⟩

set_option maxHeartbeats 400000 in
theorem bitCount_c (a : Option Addr) (n cap : Nat) (w : World) (hn : n ≤ 140737488351296) :
    Calls Tryz.prog 73 #[.slice a n cap] w fun e w' => e = .returned (.int .u64 (8 * n : Nat)) ∧ w' = w := by
  have k1 : (0 : Int) ≤ (n : Int) := by omega
  have k2 : (n : Int) ≤ 140737488351296 := by omega
  go_enter Tryz.func73, Tryz.ntmps73
  go_wp2_with fail
  go_ret
  refine ⟨?_, rfl⟩
  congr 1

/-- append of bytes that the statement lays. -/
theorem appL {w : World} {base : Nat} {v : Value} {l : List Nat} (h : Own w base v l) (k : List Nat) (hk : 0 < k.length) (hb : base ≤ w.heap.size) (hn : l.length + k.length ≤ 140737488355328) (ty : TypeId) :
    ∃ v' w', (Builtin.append_ #[28, 28] ty #[v, .slice (some ⟨w.heap.size, 0, none⟩) k.length k.length]).run Tryz.prog (w.alloc (.cells (cl k).toArray 5)) = .ok v' w' ∧ Own w' base v' (l ++ k) ∧ Below base w w' ∧ w.heap.size ≤ w'.heap.size := by
  obtain ⟨i, hi, hz, hs, hby⟩ := info_parts info_u8
  obtain ⟨v', w', hr, ho, hg, _, _⟩ := run_append_own_at (P := Tryz.prog) (w.alloc (.cells (cl k).toArray 5)) base 28 ty 5 i (.int .u8 0) 1 1 Tryz.underlying28 hi hz hs hby rfl (by decide) v l.length (cl l) (World.ownsRow.alloc h _) ⟨w.heap.size, 0, none⟩ k.length k.length (cl k) (by rw [cl_len]; omega)
    (by
      intro j u hj
      have e : (⟨w.heap.size, 0, none⟩ : Addr).add j = ⟨w.heap.size, j, none⟩ := by unfold Addr.add; split <;> simp_all
      rw [e, World.cell?_alloc_mark w _ _ (0, 0) j]
      simpa using hj) (cl_one _) (by unfold maxLen; omega) (by omega) (by simp; omega)
  have hB : Below base w (w.alloc (.cells (cl k).toArray 5)) := (Below.refl base w).alloc hb _
  have hB2 := hB.grown hg (by simp; omega) h.block
  refine ⟨v', w', hr, ?_, hB2, hB2.size⟩
  unfold Own
  rw [cl_app, List.length_append]
  exact ho
theorem wb_low (x : Nat) : wb true x 4 = [x % 256, x / 256 % 256, x / 65536 % 256, x / 16777216 % 256] := by simp [wb, wbAt, List.range_succ]
theorem wb_high (x : Nat) : wb false x 4 = [x / 16777216 % 256, x / 65536 % 256, x / 256 % 256, x % 256] := by simp [wb, wbAt, List.range_succ]
set_option maxRecDepth 100000 in
set_option maxHeartbeats 1000000 in
theorem appLow_c {w : World} {base : Nat} {v : Value} {l : List Nat} (h : Own w base v l) (x : Nat) (hx : x < 4294967296) (hb : base ≤ w.heap.size) (hn : l.length + 4 ≤ 140737488355328) :
    Calls Tryz.prog 74 #[v, .int .u32 x] w fun e w' => (∃ v', e = .returned v' ∧ Own w' base v' (l ++ wb true x 4)) ∧ Below base w w' ∧ w.heap.size ≤ w'.heap.size := by
  obtain ⟨v', w', hr, ho, hB, hs⟩ := appL h (wb true x 4) (by rw [wb_len]; omega) hb (by rw [wb_len]; omega) 28
  rw [wb_low] at hr
  have HO := Lib.hid ho
  have HB := Lib.hid hB
  have HS := Lib.hid hs
  clear ho hB hs h hb
  have r : (Builtin.append_ #[28, 28] 28 #[v, .slice (some ⟨w.heap.size, 0, none⟩) 4 4]).run Tryz.prog (w.alloc (.cells #[.int .u8 ((x : Int) % 256), .int .u8 ((x : Int) / 256 % 256), .int .u8 ((x : Int) / 65536 % 256), .int .u8 ((x : Int) / 16777216)] 5)) = .ok v' w' := by
    rw [← hr, Nat.mod_eq_of_lt (show x / 16777216 < 256 from by omega)]
    simp [cl]
  clear hr
  replace r := Lib.hid r
  have k3 : (0 : Int) ≤ (x : Int) := by omega
  go_enter Tryz.func74, Tryz.ntmps74
  go_wp2_with (at_builtin; refine wpList_append_eq rfl _ _ 28 rfl _ _ v' w' rfl rfl r.out ?_)
  go_ret
  exact ⟨⟨_, rfl, HO.out⟩, HB.out, HS.out⟩
end Go.Proofs.YtkjolaoajbdomaaGreatDoor.Hs
namespace Go.Proofs.YtkjolaoajbdomaaGreatDoor.Hs
open Go.RowKit
set_option linter.unusedVariables false
set_option linter.unusedSimpArgs false

/-- an array of n words in block b, that may be written. -/
def As (w : World) (b n : Nat) (g : Nat → Nat) : Prop :=
  b < w.heap.size ∧ (∀ i, i < n → g i < 4294967296) ∧ ∀ i, i < n → w.cell? ⟨b, i, none⟩ = some (.int .u32 (g i)) ∧ w.frozen? ⟨b, i, none⟩ = false
theorem As.below {w w' : World} {b n : Nat} {g : Nat → Nat} (h : As w b n g) (k : Below w.heap.size w w') : As w' b n g :=
  ⟨Nat.lt_of_lt_of_le h.1 k.size, h.2.1, fun i hi => ⟨(k.cell (p := ⟨b, i, none⟩) h.1).trans (h.2.2 i hi).1, (k.frozen (p := ⟨b, i, none⟩) h.1).trans (h.2.2 i hi).2⟩⟩
theorem As.belowB {B : Nat} {w w' : World} {b n : Nat} {g : Nat → Nat} (h : As w b n g) (hb : b < B) (k : Below B w w') : As w' b n g :=
  ⟨Nat.lt_of_lt_of_le h.1 k.size, h.2.1, fun i hi => ⟨(k.cell (p := ⟨b, i, none⟩) hb).trans (h.2.2 i hi).1, (k.frozen (p := ⟨b, i, none⟩) hb).trans (h.2.2 i hi).2⟩⟩
def up (g : Nat → Nat) (k v : Nat) : Nat → Nat := fun i => if i = k then v else g i
theorem As.set {w : World} {b n : Nat} {g : Nat → Nat} (h : As w b n g) (k v : Nat) (hk : k < n) (hv : v < 4294967296) : As (w.setCell ⟨b, k, none⟩ (.int .u32 v)) b n (up g k v) := by
  refine ⟨by simpa [World.setCell] using h.1, fun i hi => ?_, fun i hi => ?_⟩
  · unfold up; split
    · exact hv
    · exact h.2.1 i hi
  · refine ⟨?_, by rw [World.frozen?_setCell]; exact (h.2.2 i hi).2⟩
    unfold up
    by_cases e : i = k
    · subst e
      rw [World.cell?_setCell_same _ _ _ (h.2.2 i hi).1, if_pos rfl]
    · rw [World.cell?_setCell_other _ _ _ _ (fun q => e (by simpa using q.symm)), if_neg e]
      exact (h.2.2 i hi).1
theorem As.eq {w : World} {b n : Nat} {g g' : Nat → Nat} (h : As w b n g) (e : ∀ i, i < n → g i = g' i) : As w b n g' :=
  ⟨h.1, fun i hi => by rw [← e i hi]; exact h.2.1 i hi, fun i hi => by rw [← e i hi]; exact h.2.2 i hi⟩
/-- the words as cells. -/
def wc (g : Nat → Nat) (n : Nat) : List Value := (List.range n).map fun i => .int .u32 ((g i : Nat) : Int)
theorem wc_len (g : Nat → Nat) (n : Nat) : (wc g n).length = n := by simp [wc]
theorem wc_get {g : Nat → Nat} {n j : Nat} (h : j < n) : (wc g n)[j]? = some (.int .u32 ((g j : Nat) : Int)) := by simp [wc, h]
theorem wc_one (g : Nat → Nat) (n : Nat) : (wc g n).toArray.all (·.oneCell') = true := by
  refine all_oneCell_toArray fun v hv => ?_
  simp only [wc, List.mem_map] at hv
  obtain ⟨i, _, rfl⟩ := hv
  rfl
theorem As.range {w : World} {b n : Nat} {g : Nat → Nat} (h : As w b n g) : w.rangeAt b 0 (wc g n) := by
  intro j v hj
  have hj' : j < n := by have := (List.getElem?_eq_some_iff.1 hj).1; rwa [wc_len] at this
  rw [wc_get hj'] at hj
  rw [Nat.zero_add, ← hj]
  exact (h.2.2 j hj').1
theorem As.there {w : World} {b n : Nat} {g : Nat → Nat} (h : As w b n g) : w.there b 0 n := by
  intro j hj
  rw [Nat.zero_add, (h.2.2 j hj).1]
  exact ⟨rfl, (h.2.2 j hj).2⟩
theorem belowCells {B : Nat} {w0 : World} (b : Nat) (hb : B ≤ b) : ∀ (vs : List Value) (o : Nat) (w : World), Below B w0 w → Below B w0 (w.setCells b o vs)
  | [], _, _, h => h
  | v :: r, o, w, h => by
    rw [World.setCells]
    exact belowCells b hb r (o + 1) _ (h.setCell hb v)
theorem As.mk_cells {w : World} {b n : Nat} {g : Nat → Nat} (hb : b < w.heap.size) (ht : w.there b 0 n) (hg : ∀ i, i < n → g i < 4294967296) : As (w.setCells b 0 (wc g n)) b n g := by
  have hl := wc_len g n
  have hr := World.rangeAt_setCells_same w b 0 (wc g n) (by rw [hl]; exact ht)
  have hh := World.there_setCells ht b 0 (wc g n)
  refine ⟨Nat.lt_of_lt_of_le hb (belowCells (B := 0) b (Nat.zero_le _) (wc g n) 0 w (Below.refl _ _)).size, hg, fun i hi => ⟨?_, ?_⟩⟩
  · simpa using hr i _ (wc_get hi)
  · simpa using (hh i hi).2
theorem run_store_wc {P : Program} {w : World} {b n : Nat} (ht : w.there b 0 n) (g : Nat → Nat) : (storeCells ⟨b, 0, none⟩ (wc g n)).run P w = .ok () (w.setCells b 0 (wc g n)) := by
  have h := run_storeCells_cells (P := P) b 0 (wc g n) 0 w (fun j hj => by simpa using (ht j (by rwa [wc_len] at hj)).1) (fun j hj => by simpa using (ht j (by rwa [wc_len] at hj)).2)
    (fun v hv => (Array.all_eq_true_iff_forall_mem.1 (wc_one g n)) v (by simpa using hv))
  simpa using h
theorem results_cell_mid {P : Program} {fn : Func} {p : Tmp} {ty : TypeId} (h : fn.results = #[.cell p ty]) (tmps : Array Value) (w : World) (b : Nat) (cs : List Value) (d : TypeDesc)
    (hp : tmps.getD p undef = .pointer (some ⟨b, 0, none⟩)) (hc : w.rangeAt b 0 cs)
    (hu : P.underlying ty = some d) (hd : d.isRow = true) (hi : (P.info? ty).map (·.size) = some cs.length) :
    (results fn tmps).run P w = .ok (.agg cs.toArray) w := by
  have hp' : tmps[p]?.getD undef = .pointer (some ⟨b, 0, none⟩) := by simpa using hp
  simp [results, h, hp', asAddr, run_loadVar_mid w b 0 ty cs d hc hu hd hi]

theorem low4 (f : Nat → Nat) (hf : ∀ i, f i < 256) (at' : Nat) :
    bits BinOp.or IntKind.u32 (bits BinOp.or IntKind.u32 (bits BinOp.or IntKind.u32 (f at' : Int) ((f (at' + 1) : Int) * 256)) ((f (at' + 2) : Int) * 65536)) ((f (at' + 3) : Int) * 16777216) = (wrd true f at' : Int) := by
  have h1 := low_step f hf at' 1 (by omega)
  have h2 := low_step f hf at' 2 (by omega)
  have h3 := low_step f hf at' 3 (by omega)
  have b1 := hf (at' + 1)
  have b2 := hf (at' + 2)
  have b3 := hf (at' + 3)
  have e1 : (wl f at' 1 : Int) = (f at' : Int) := by simp [wl]
  have m1 : (f (at' + 1) : Int) * 2 ^ (8 * 1) % 4294967296 = (f (at' + 1) : Int) * 256 := by omega
  have m2 : (f (at' + 2) : Int) * 2 ^ (8 * 2) % 4294967296 = (f (at' + 2) : Int) * 65536 := by omega
  have m3 : (f (at' + 3) : Int) * 2 ^ (8 * 3) % 4294967296 = (f (at' + 3) : Int) * 16777216 := by omega
  rw [m1, e1] at h1
  rw [m2] at h2
  rw [m3] at h3
  rw [h1, h2, h3]
  rfl

theorem As.new (w : World) (n : Nat) (ty : TypeId) : As (w.alloc (.cells (Array.replicate n (.int .u32 0)) ty)) w.heap.size n (fun _ => 0) := by
  refine ⟨by simp, fun _ _ => by simp, fun i hi => ⟨?_, by simp [go_sem]⟩⟩
  rw [World.cell?_alloc_mark w _ _ (0, 0) i]
  simp [hi]
theorem As.new2 (w : World) (n : Nat) (ty : TypeId) (o : Obj) : As ((w.alloc o).alloc (.cells (Array.replicate n (.int .u32 0)) ty)) (w.heap.size + 1) n (fun _ => 0) := by
  have h := As.new (w.alloc o) n ty
  rwa [show (w.alloc o).heap.size = w.heap.size + 1 from by simp] at h
theorem bdrew1 (B : Nat) (w : World) : Below B w w.drew := ⟨rfl, rfl, rfl, Nat.le_refl _, fun _ _ => rfl⟩
theorem info_a16 : (Tryz.prog.info? 136).map (·.size) = some 16 := by kernel_rfl
/-- a slice's cells, seen from the block's beginning. -/
theorem Bs.at {w : World} {b off n : Nat} {f : Nat → Nat} (h : Bs w b off n f) {i : Nat} (hi : i < n) : w.cell? ⟨b, off + i, none⟩ = some (.int .u8 (f i)) := h.2.2 i hi

set_option maxRecDepth 100000 in
set_option maxHeartbeats 2000000 in
theorem md5Words_c (b off cap : Nat) (f : Nat → Nat) (w : World) (B : Bs w b off 64 f) :
    Calls Tryz.prog 95 #[.slice (some ⟨b, off, none⟩) 64 cap] w fun e w' => e = .returned (.agg (wc (fun i => wrd true f (4 * i)) 16).toArray) ∧ Below w.heap.size w w' := by
  have WS := Lib.hid (balloc (balloc (brefl w) (.cells #[.int .u32 0, .int .u32 0, .int .u32 0, .int .u32 0, .int .u32 0, .int .u32 0, .int .u32 0, .int .u32 0, .int .u32 0, .int .u32 0, .int .u32 0, .int .u32 0, .int .u32 0, .int .u32 0, .int .u32 0, .int .u32 0] 136)) (.cells #[.int .u32 0, .int .u32 0, .int .u32 0, .int .u32 0, .int .u32 0, .int .u32 0, .int .u32 0, .int .u32 0, .int .u32 0, .int .u32 0, .int .u32 0, .int .u32 0, .int .u32 0, .int .u32 0, .int .u32 0, .int .u32 0] 136))
  have HB := Lib.hid (B.below WS.out)
  have R0 : Hid (As ((w.alloc (.cells #[.int .u32 0, .int .u32 0, .int .u32 0, .int .u32 0, .int .u32 0, .int .u32 0, .int .u32 0, .int .u32 0, .int .u32 0, .int .u32 0, .int .u32 0, .int .u32 0, .int .u32 0, .int .u32 0, .int .u32 0, .int .u32 0] 136)).alloc (.cells #[.int .u32 0, .int .u32 0, .int .u32 0, .int .u32 0, .int .u32 0, .int .u32 0, .int .u32 0, .int .u32 0, .int .u32 0, .int .u32 0, .int .u32 0, .int .u32 0, .int .u32 0, .int .u32 0, .int .u32 0, .int .u32 0] 136)) w.heap.size 16 (fun _ => 0)) := Lib.hid ((As.new w 16 136).below (balloc (brefl _) _))
  have A0 : Hid (As ((w.alloc (.cells #[.int .u32 0, .int .u32 0, .int .u32 0, .int .u32 0, .int .u32 0, .int .u32 0, .int .u32 0, .int .u32 0, .int .u32 0, .int .u32 0, .int .u32 0, .int .u32 0, .int .u32 0, .int .u32 0, .int .u32 0, .int .u32 0] 136)).alloc (.cells #[.int .u32 0, .int .u32 0, .int .u32 0, .int .u32 0, .int .u32 0, .int .u32 0, .int .u32 0, .int .u32 0, .int .u32 0, .int .u32 0, .int .u32 0, .int .u32 0, .int .u32 0, .int .u32 0, .int .u32 0, .int .u32 0] 136)) (w.heap.size + 1) 16 (fun _ => 0)) := Lib.hid (As.new2 w 16 136 _)
  have L1 := B.1
  clear B
  go_enter Tryz.func95, Tryz.ntmps95
  go_wp2_with fail
  generalize (w.alloc (.cells #[.int .u32 0, .int .u32 0, .int .u32 0, .int .u32 0, .int .u32 0, .int .u32 0, .int .u32 0, .int .u32 0, .int .u32 0, .int .u32 0, .int .u32 0, .int .u32 0, .int .u32 0, .int .u32 0, .int .u32 0, .int .u32 0] 136)).alloc (.cells #[.int .u32 0, .int .u32 0, .int .u32 0, .int .u32 0, .int .u32 0, .int .u32 0, .int .u32 0, .int .u32 0, .int .u32 0, .int .u32 0, .int .u32 0, .int .u32 0, .int .u32 0, .int .u32 0, .int .u32 0, .int .u32 0] 136) = W0 at *
  go_loopw [6] (fun i wr => ∃ k : Nat, k ≤ 16 ∧ i = .int .i64 k ∧ As wr (w.heap.size + 1) 16 (fun i => if i < k then wrd true f (4 * i) else 0) ∧ Below (w.heap.size + 1) W0 wr) (fun i _ => 16 - (intOf i).toNat)
  case atStart => exact ⟨0, by omega, rfl, A0.out.eq (by simp), Below.refl _ _⟩
  case round =>
    obtain ⟨k, hk, rfl, ar, hb⟩ := hrel
    rename World => wr
    have AR := Lib.hid ar
    have BB := Lib.hid hb
    have BS := Lib.hid (HB.out.belowB (by omega) hb)
    clear ar hb
    by_cases c : k < 16
    · have e0 : decide ((k : Int) < 16) = true := by rw [decide_eq_true_iff]; omega
      have LO := Lib.hid (low4 f BS.out.2.1 (4 * k))
      have g0 := BS.out.at (i := 4 * k) (by omega)
      have g1 := BS.out.at (i := 4 * k + 1) (by omega)
      have g2 := BS.out.at (i := 4 * k + 2) (by omega)
      have g3 := BS.out.at (i := 4 * k + 3) (by omega)
      have f0 := BS.out.2.1 (4 * k)
      have f1 := BS.out.2.1 (4 * k + 1)
      have f2 := BS.out.2.1 (4 * k + 2)
      have f3 := BS.out.2.1 (4 * k + 3)
      obtain ⟨a1, a2⟩ := AR.out.2.2 k c
      have VL := wrd_lt true f BS.out.2.1 (4 * k)
      have ST := Lib.hid (AR.out.set k (wrd true f (4 * k)) c VL)
      generalize f (4 * k) = x0 at *
      generalize f (4 * k + 1) = x1 at *
      generalize f (4 * k + 2) = x2 at *
      generalize f (4 * k + 3) = x3 at *
      go_wp2_with fail
      go_region
      rw [LO.out]
      go_wp2_with fail
      go_roundw
      case rel => exact ⟨k + 1, by omega, by go_num, (ST.out.below (bdrew1 _ _)).eq (fun i hi => by unfold up; by_cases e : i = k <;> by_cases e' : i < k <;> simp [e, e'] <;> omega), (BB.out.setCell (Nat.le_refl _) _).trans (bdrew1 _ _)⟩
      case measure => simp [intOf]; omega
    · have e0 : decide ((k : Int) < 16) = false := by rw [decide_eq_false_iff_not]; omega
      obtain rfl : k = 16 := by omega
      have AW := Lib.hid (AR.out.eq (g' := fun i => wrd true f (4 * i)) (fun i hi => by simp [hi]))
      have RW := Lib.hid (R0.out.belowB (by omega) BB.out)
      have VL : ∀ i, i < 16 → wrd true f (4 * i) < 4294967296 := AW.out.2.1
      have FI := Lib.hid (As.mk_cells (g := fun i => wrd true f (4 * i)) RW.out.1 RW.out.there VL)
      have FB := Lib.hid (belowCells (B := w.heap.size) w.heap.size (Nat.le_refl _) (wc (fun i => wrd true f (4 * i)) 16) 0 wr (WS.out.trans (BB.out.mono (by omega))))
      have SE := run_store_wc (P := Tryz.prog) RW.out.there (fun i => wrd true f (4 * i))
      go_wp2_with (refine wpList_load_mid rfl 136 _ rfl _ 0 rfl (wc (fun i => wrd true f (4 * i)) 16) _ AW.out.range Tryz.underlying136 rfl (by rw [wc_len]; exact info_a16) ?_)
      refine bodyPost_ret (v := .agg (wc (fun i => wrd true f (4 * i)) 16).toArray) (results_cell_mid rfl _ _ w.heap.size _ _ rfl FI.out.range Tryz.underlying136 rfl (by rw [wc_len]; exact info_a16)) rfl ⟨rfl, FB.out⟩
end Go.Proofs.YtkjolaoajbdomaaGreatDoor.Hs
namespace Go.Proofs.YtkjolaoajbdomaaGreatDoor.Hs
open Go.RowKit
set_option linter.unusedVariables false
set_option linter.unusedSimpArgs false

def sg0 (x : Nat) : Nat := ror x 7 ^^^ ror x 18 ^^^ (x / 8)
def sg1 (x : Nat) : Nat := ror x 17 ^^^ ror x 19 ^^^ (x / 1024)
theorem ror_lt {x n : Nat} (hx : x < 4294967296) (h1 : 1 ≤ n) (h2 : n ≤ 31) : ror x n < 4294967296 := (rol_or x (32 - n) hx (by omega) (by omega)).2
theorem sg0_lt {x : Nat} (hx : x < 4294967296) : sg0 x < 4294967296 := lt_xor (lt_xor (ror_lt hx (by omega) (by omega)) (ror_lt hx (by omega) (by omega))) (by omega)
theorem sg1_lt {x : Nat} (hx : x < 4294967296) : sg1 x < 4294967296 := lt_xor (lt_xor (ror_lt hx (by omega) (by omega)) (ror_lt hx (by omega) (by omega))) (by omega)
theorem sg0_eq {x : Nat} (hx : x < 4294967296) : bits BinOp.xor IntKind.u32 (bits BinOp.xor IntKind.u32 (ror x 7 : Int) (ror x 18 : Int)) ((x : Int) / 8) = (sg0 x : Int) := by
  have h7 := ror_lt (n := 7) hx (by omega) (by omega)
  have h18 := ror_lt (n := 18) hx (by omega) (by omega)
  rw [show (x : Int) / 8 = ((x / 8 : Nat) : Int) from by omega, xor_nat _ _ h7 h18, xor_nat _ _ (lt_xor h7 h18) (by omega)]
  rfl
theorem sg1_eq {x : Nat} (hx : x < 4294967296) : bits BinOp.xor IntKind.u32 (bits BinOp.xor IntKind.u32 (ror x 17 : Int) (ror x 19 : Int)) ((x : Int) / 1024) = (sg1 x : Int) := by
  have h7 := ror_lt (n := 17) hx (by omega) (by omega)
  have h18 := ror_lt (n := 19) hx (by omega) (by omega)
  rw [show (x : Int) / 1024 = ((x / 1024 : Nat) : Int) from by omega, xor_nat _ _ h7 h18, xor_nat _ _ (lt_xor h7 h18) (by omega)]
  rfl
def shaN (g : Nat → Nat) (k : Nat) : Nat := (g (k - 16) + sg0 (g (k - 15)) + g (k - 7) + sg1 (g (k - 2))) % 4294967296
/-- the schedule, word by word: 16 and t words are there. -/
def shaX (M : Nat → Nat) : Nat → Nat → Nat
  | 0 => fun i => if i < 16 then M i else 0
  | t + 1 => up (shaX M t) (16 + t) (shaN (shaX M t) (16 + t))
theorem high4 (f : Nat → Nat) (hf : ∀ i, f i < 256) (at' : Nat) :
    bits BinOp.or IntKind.u32 (bits BinOp.or IntKind.u32 (bits BinOp.or IntKind.u32 ((f at' : Int) * 16777216) ((f (at' + 1) : Int) * 65536)) ((f (at' + 2) : Int) * 256)) (f (at' + 3) : Int) = (wrd false f at' : Int) := by
  have h1 := high_step f hf at' 1 (by omega)
  have h2 := high_step f hf at' 2 (by omega)
  have h3 := high_step f hf at' 3 (by omega)
  have b0 := hf at'
  have b1 := hf (at' + 1)
  have b2 := hf (at' + 2)
  have b3 := hf (at' + 3)
  have e1 : (wh f at' 1 : Int) = (f at' : Int) * 16777216 := by simp [wh]
  have m1 : (f (at' + 1) : Int) * 2 ^ (24 - 8 * 1) % 4294967296 = (f (at' + 1) : Int) * 65536 := by omega
  have m2 : (f (at' + 2) : Int) * 2 ^ (24 - 8 * 2) % 4294967296 = (f (at' + 2) : Int) * 256 := by omega
  have m3 : (f (at' + 3) : Int) * 2 ^ (24 - 8 * 3) % 4294967296 = (f (at' + 3) : Int) := by omega
  rw [m1, e1] at h1
  rw [m2] at h2
  rw [m3] at h3
  rw [h1, h2, h3]
  rfl
theorem info_a64 : (Tryz.prog.info? 154).map (·.size) = some 64 := by kernel_rfl

end Go.Proofs.YtkjolaoajbdomaaGreatDoor.Hs

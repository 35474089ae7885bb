/-
  Words that lie in memory, and the contract of sundialref04.bytes: the bytes of words, in a slice of the call's own.
  Conditions: at most sixteen words.
  MD5 in numbers; the contracts of sundialref04.mdTable and shaTable; bytes of the call's own as bytes in memory.
  Conditions: none.
  The contract of sundialref04.MD5: the digest of bytes, in a slice of the call's own.
  Conditions: no more than 2^47 - 4096 bytes.
  MD5 of bytes that lie in memory, and of nil; sundialref04.Same.
  Conditions: no more than 2^47 - 4096 bytes.
-/
import Derived.Test.YtkjolaoajbdomaaGreatDoorHa
import Derived.Laws.IdiomStrings
namespace Go.Proofs.YtkjolaoajbdomaaGreatDoor.Hs
open Go.RowKit
set_option linter.unusedVariables false
set_option linter.unusedSimpArgs false

/-- n words begin at b, off: word i is g i. -/
def Ws (w : World) (b off n : Nat) (g : Nat → Nat) : Prop :=
  b < w.heap.size ∧ (∀ i, i < n → g i < 4294967296) ∧ ∀ i, i < n → w.cell? ⟨b, off + i, none⟩ = some (.int .u32 (g i))
theorem Ws.below {w w' : World} {b off n : Nat} {g : Nat → Nat} (h : Ws w b off n g) (k : Below w.heap.size w w') : Ws w' b off n g :=
  ⟨Nat.lt_of_lt_of_le h.1 k.size, h.2.1, fun i hi => (k.cell (p := ⟨b, off + i, none⟩) h.1).trans (h.2.2 i hi)⟩
/-- byte j of a word. -/
def wbAt (low : Bool) (x j : Nat) : Nat := x / 2 ^ (if low then 8 * j else 24 - 8 * j) % 256
def wb (low : Bool) (x k : Nat) : List Nat := (List.range k).map (wbAt low x)
theorem wb_succ (low : Bool) (x k : Nat) : wb low x (k + 1) = wb low x k ++ [wbAt low x k] := by simp [wb, List.range_succ]
theorem wb_len (low : Bool) (x k : Nat) : (wb low x k).length = k := by simp [wb]
/-- the bytes of the first n words. -/
def ob (low : Bool) (g : Nat → Nat) : Nat → List Nat
  | 0 => []
  | n + 1 => ob low g n ++ wb low (g n) 4
theorem ob_len (low : Bool) (g : Nat → Nat) : ∀ n, (ob low g n).length = 4 * n
  | 0 => rfl
  | n + 1 => by simp only [ob, List.length_append, ob_len low g n, wb_len]; omega

set_option maxRecDepth 100000 in
set_option maxHeartbeats 2000000 in
theorem rbytes_low (b off n cap : Nat) (g : Nat → Nat) (w : World) (W : Ws w b off n g) (hn : n ≤ 16) :
    Calls Tryz.prog 63 #[.slice (some ⟨b, off, none⟩) n cap, .bool true] w fun e w' => (∃ v, e = .returned v ∧ Own w' w.heap.size v (ob true g n)) ∧ Below w.heap.size w w' := by
  have HW := Lib.hid W
  clear W
  have n1 : (n : Int) ≤ 16 := by omega
  go_enter Tryz.func63, Tryz.ntmps63
  go_wp2_with fail
  go_loopw [5, 6] (fun v i wr => ∃ m : Nat, m ≤ n ∧ i = .int .i64 m ∧ Own wr w.heap.size v (ob true g m) ∧ Below w.heap.size w wr ∧ w.heap.size ≤ wr.heap.size) (fun _ i _ => n - (intOf i).toNat)
  case atStart => exact ⟨0, Nat.zero_le _, rfl, Own.nil _ _, Below.refl _ _, Nat.le_refl _⟩
  case round =>
    obtain ⟨m, hm, rfl, ho, hb, hs⟩ := hrel
    have HO := Lib.hid ho
    have HB := Lib.hid hb
    have HS := Lib.hid hs
    clear ho hb hs
    by_cases c : m < n
    · have e0 : decide ((m : Int) < (n : Int)) = true := by rw [decide_eq_true_iff]; omega
      go_wp2_with fail
      clear e0
      go_loopw [5, 7] (fun v i w2 => ∃ k : Nat, k ≤ 4 ∧ i = .int .i64 k ∧ Own w2 w.heap.size v (ob true g m ++ wb true (g m) k) ∧ Below w.heap.size w w2 ∧ w.heap.size ≤ w2.heap.size) (fun _ i _ => 4 - (intOf i).toNat)
      case atStart => exact ⟨0, by omega, rfl, by rw [show wb true (g m) 0 = [] from rfl, List.append_nil]; exact HO.out, HB.out, HS.out⟩
      case round =>
        clear HO HB HS
        obtain ⟨k, hk, rfl, ho, hb, hs⟩ := hrel
        by_cases c4 : k < 4
        · have e0 : decide ((k : Int) < 4) = true := by rw [decide_eq_true_iff]; omega
          have le : (ob true g m ++ wb true (g m) k).length = 4 * m + k := by rw [List.length_append, ob_len, wb_len]
          have gw := HW.out.2.1 m c
          have gc := (HW.out.below hb).2.2 m c
          obtain ⟨v4, w4, r4, o4, b4, s4⟩ := app1 ho (wbAt true (g m) k) hs (by rw [le]; omega) 28
          rw [List.append_assoc, ← wb_succ] at o4
          have O4 := Lib.hid o4
          have B4 := Lib.hid (bstepB hb b4)
          have S4 := Lib.hid (Nat.le_trans hs s4)
          clear o4 b4 s4 ho hb hs
          have e4 : ((wbAt true (g m) k : Nat) : Int) = (g m : Int) / 2 ^ (8 * k) % 256 := by unfold wbAt; simp
          rw [e4] at r4
          generalize g m = x at *
          have k0 : (0 : Int) ≤ (k : Int) := by omega
          have k7 : (k : Int) ≤ 3 := by omega
          have m0 : (0 : Int) ≤ (m : Int) := by omega
          have m1 : (m : Int) < (n : Int) := by omega
          have x0 : (0 : Int) ≤ (x : Int) := by omega
          have x1 : (x : Int) < 4294967296 := by omega
          go_wp2_with (first | (at_builtin; refine wpList_append_eq rfl _ _ 28 rfl _ _ v4 w4 rfl rfl r4 ?_))
          go_roundw
          case rel => exact ⟨k + 1, by omega, by go_num, O4.out, B4.out, S4.out⟩
          case measure => simp [intOf]; omega
        · have e0 : decide ((k : Int) < 4) = false := by rw [decide_eq_false_iff_not]; omega
          obtain rfl : k = 4 := by omega
          have HO := Lib.hid ho
          have HB := Lib.hid hb
          have HS := Lib.hid hs
          clear ho hb hs
          go_wp2_with fail
          go_roundw
          case rel => exact ⟨m + 1, by omega, by go_num, HO.out, HB.out, HS.out⟩
          case measure => simp [intOf]; omega
    · have e0 : decide ((m : Int) < (n : Int)) = false := by rw [decide_eq_false_iff_not]; omega
      obtain rfl : m = n := by omega
      go_wp2_with fail
      go_ret
      exact ⟨⟨_, rfl, HO.out⟩, HB.out⟩

set_option maxRecDepth 100000 in
set_option maxHeartbeats 2000000 in
theorem rbytes_high (b off n cap : Nat) (g : Nat → Nat) (w : World) (W : Ws w b off n g) (hn : n ≤ 16) :
    Calls Tryz.prog 63 #[.slice (some ⟨b, off, none⟩) n cap, .bool false] w fun e w' => (∃ v, e = .returned v ∧ Own w' w.heap.size v (ob false g n)) ∧ Below w.heap.size w w' := by
  have HW := Lib.hid W
  clear W
  have n1 : (n : Int) ≤ 16 := by omega
  go_enter Tryz.func63, Tryz.ntmps63
  go_wp2_with fail
  go_loopw [5, 6] (fun v i wr => ∃ m : Nat, m ≤ n ∧ i = .int .i64 m ∧ Own wr w.heap.size v (ob false g m) ∧ Below w.heap.size w wr ∧ w.heap.size ≤ wr.heap.size) (fun _ i _ => n - (intOf i).toNat)
  case atStart => exact ⟨0, Nat.zero_le _, rfl, Own.nil _ _, Below.refl _ _, Nat.le_refl _⟩
  case round =>
    obtain ⟨m, hm, rfl, ho, hb, hs⟩ := hrel
    have HO := Lib.hid ho
    have HB := Lib.hid hb
    have HS := Lib.hid hs
    clear ho hb hs
    by_cases c : m < n
    · have e0 : decide ((m : Int) < (n : Int)) = true := by rw [decide_eq_true_iff]; omega
      go_wp2_with fail
      clear e0
      go_loopw [5, 7] (fun v i w2 => ∃ k : Nat, k ≤ 4 ∧ i = .int .i64 k ∧ Own w2 w.heap.size v (ob false g m ++ wb false (g m) k) ∧ Below w.heap.size w w2 ∧ w.heap.size ≤ w2.heap.size) (fun _ i _ => 4 - (intOf i).toNat)
      case atStart => exact ⟨0, by omega, rfl, by rw [show wb false (g m) 0 = [] from rfl, List.append_nil]; exact HO.out, HB.out, HS.out⟩
      case round =>
        clear HO HB HS
        obtain ⟨k, hk, rfl, ho, hb, hs⟩ := hrel
        by_cases c4 : k < 4
        · have e0 : decide ((k : Int) < 4) = true := by rw [decide_eq_true_iff]; omega
          have le : (ob false g m ++ wb false (g m) k).length = 4 * m + k := by rw [List.length_append, ob_len, wb_len]
          have gw := HW.out.2.1 m c
          have gc := (HW.out.below hb).2.2 m c
          obtain ⟨v4, w4, r4, o4, b4, s4⟩ := app1 ho (wbAt false (g m) k) hs (by rw [le]; omega) 28
          rw [List.append_assoc, ← wb_succ] at o4
          have O4 := Lib.hid o4
          have B4 := Lib.hid (bstepB hb b4)
          have S4 := Lib.hid (Nat.le_trans hs s4)
          clear o4 b4 s4 ho hb hs
          have e4 : ((wbAt false (g m) k : Nat) : Int) = (g m : Int) / 2 ^ (24 - 8 * k) % 256 := by unfold wbAt; simp
          rw [e4] at r4
          generalize g m = x at *
          have k0 : (0 : Int) ≤ (k : Int) := by omega
          have k7 : (k : Int) ≤ 3 := by omega
          have m0 : (0 : Int) ≤ (m : Int) := by omega
          have m1 : (m : Int) < (n : Int) := by omega
          have x0 : (0 : Int) ≤ (x : Int) := by omega
          have x1 : (x : Int) < 4294967296 := by omega
          go_wp2_with (first | (at_builtin; refine wpList_append_eq rfl _ _ 28 rfl _ _ v4 w4 rfl rfl r4 ?_))
          go_roundw
          case rel => exact ⟨k + 1, by omega, by go_num, O4.out, B4.out, S4.out⟩
          case measure => simp [intOf]; omega
        · have e0 : decide ((k : Int) < 4) = false := by rw [decide_eq_false_iff_not]; omega
          obtain rfl : k = 4 := by omega
          have HO := Lib.hid ho
          have HB := Lib.hid hb
          have HS := Lib.hid hs
          clear ho hb hs
          go_wp2_with fail
          go_roundw
          case rel => exact ⟨m + 1, by omega, by go_num, HO.out, HB.out, HS.out⟩
          case measure => simp [intOf]; omega
    · have e0 : decide ((m : Int) < (n : Int)) = false := by rw [decide_eq_false_iff_not]; omega
      obtain rfl : m = n := by omega
      go_wp2_with fail
      go_ret
      exact ⟨⟨_, rfl, HO.out⟩, HB.out⟩
end Go.Proofs.YtkjolaoajbdomaaGreatDoor.Hs
namespace Go.Proofs.YtkjolaoajbdomaaGreatDoor.Hs
open Go.RowKit
set_option linter.unusedVariables false
set_option linter.unusedSimpArgs false

def mdKs : List Nat := [3614090360, 3905402710, 606105819, 3250441966, 4118548399, 1200080426, 2821735955, 4249261313, 1770035416, 2336552879, 4294925233, 2304563134, 1804603682, 4254626195, 2792965006, 1236535329, 4129170786, 3225465664, 643717713, 3921069994, 3593408605, 38016083, 3634488961, 3889429448, 568446438, 3275163606, 4107603335, 1163531501, 2850285829, 4243563512, 1735328473, 2368359562, 4294588738, 2272392833, 1839030562, 4259657740, 2763975236, 1272893353, 4139469664, 3200236656, 681279174, 3936430074, 3572445317, 76029189, 3654602809, 3873151461, 530742520, 3299628645, 4096336452, 1126891415, 2878612391, 4237533241, 1700485571, 2399980690, 4293915773, 2240044497, 1873313359, 4264355552, 2734768916, 1309151649, 4149444226, 3174756917, 718787259, 3951481745]
def shaKs : List Nat := [1116352408, 1899447441, 3049323471, 3921009573, 961987163, 1508970993, 2453635748, 2870763221, 3624381080, 310598401, 607225278, 1426881987, 1925078388, 2162078206, 2614888103, 3248222580, 3835390401, 4022224774, 264347078, 604807628, 770255983, 1249150122, 1555081692, 1996064986, 2554220882, 2821834349, 2952996808, 3210313671, 3336571891, 3584528711, 113926993, 338241895, 666307205, 773529912, 1294757372, 1396182291, 1695183700, 1986661051, 2177026350, 2456956037, 2730485921, 2820302411, 3259730800, 3345764771, 3516065817, 3600352804, 4094571909, 275423344, 430227734, 506948616, 659060556, 883997877, 958139571, 1322822218, 1537002063, 1747873779, 1955562222, 2024104815, 2227730452, 2361852424, 2428436474, 2756734187, 3204031479, 3329325298]
def mdK (i : Nat) : Nat := mdKs.getD i 0
def shaK (i : Nat) : Nat := shaKs.getD i 0
def mdTs : List Nat := [7, 12, 17, 22, 5, 9, 14, 20, 4, 11, 16, 23, 6, 10, 15, 21]
def mdT (i : Nat) : Nat := mdTs.getD (4 * (i / 16) + i % 4) 0
theorem mdT_bd : ∀ i, i < 64 → 1 ≤ mdT i ∧ mdT i ≤ 31 := by decide
theorem mdK_lt : ∀ i, i < 64 → mdK i < 4294967296 := by decide
theorem shaK_lt : ∀ i, i < 64 → shaK i < 4294967296 := by decide
structure S4 where
  a : Nat
  b : Nat
  c : Nat
  d : Nat
/-- one step of MD5. -/
def mdf (M : Nat → Nat) (i : Nat) (s : S4) : Nat := (mF i s.b s.c s.d + s.a + mdK i + M (mG i)) % 4294967296
def mdOne (M : Nat → Nat) (i : Nat) (s : S4) : S4 := ⟨s.d, (s.b + rol (mdf M i s) (mdT i)) % 4294967296, s.b, s.c⟩
/-- the first k steps. -/
def mdRun (M : Nat → Nat) (s : S4) : Nat → S4
  | 0 => s
  | k + 1 => mdOne M k (mdRun M s k)
def mdAdd (s r : S4) : S4 := ⟨(s.a + r.a) % 4294967296, (s.b + r.b) % 4294967296, (s.c + r.c) % 4294967296, (s.d + r.d) % 4294967296⟩
/-- the state behind t blocks. -/
def mdSt (F : Nat → Nat) : Nat → S4
  | 0 => ⟨1732584193, 4023233417, 2562383102, 271733878⟩
  | t + 1 => mdAdd (mdSt F t) (mdRun (fun g => wrd true F (64 * t + 4 * g)) (mdSt F t) 64)
def S4.at (s : S4) (i : Nat) : Nat := [s.a, s.b, s.c, s.d].getD i 0
def S4.ok (s : S4) : Prop := s.a < 4294967296 ∧ s.b < 4294967296 ∧ s.c < 4294967296 ∧ s.d < 4294967296
theorem mdOne_ok {M : Nat → Nat} {i : Nat} {s : S4} (h : s.ok) : (mdOne M i s).ok := ⟨h.2.2.2, Nat.mod_lt _ (by omega), h.2.1, h.2.2.1⟩
theorem mdRun_ok {M : Nat → Nat} {s : S4} (h : s.ok) : ∀ k, (mdRun M s k).ok
  | 0 => h
  | k + 1 => mdOne_ok (mdRun_ok h k)
theorem mdSt_ok (F : Nat → Nat) : ∀ t, (mdSt F t).ok
  | 0 => by unfold mdSt S4.ok; decide
  | t + 1 => ⟨Nat.mod_lt _ (by omega), Nat.mod_lt _ (by omega), Nat.mod_lt _ (by omega), Nat.mod_lt _ (by omega)⟩
/-- the digest. -/
def md5 (f : Nat → Nat) (n : Nat) : List Nat := ob true (mdSt (fun i => (pd true f n).getD i 0) ((n + 1 + zz n + 8) / 64)).at 4

theorem cells_ws {w : World} {l : List Nat} (hl : ∀ x ∈ l, x < 4294967296) : Ws (w.alloc (.cells (l.map fun (x : Nat) => Value.int .u32 (x : Int)).toArray 94)) w.heap.size 0 l.length (fun i => l.getD i 0) := by
  refine ⟨by simp, fun i hi => ?_, fun i hi => ?_⟩
  · show l.getD i 0 < 4294967296
    rw [List.getD_eq_getElem?_getD, List.getElem?_eq_getElem hi]
    exact hl _ (List.getElem_mem hi)
  · rw [Nat.zero_add]
    exact (World.cell?_alloc_mark w _ _ (0, 0) i).trans (by simp [List.getD_eq_getElem?_getD, hi])

set_option maxRecDepth 100000 in
set_option maxHeartbeats 1000000 in
theorem rmdTable_c (w : World) :
    Calls Tryz.prog 59 #[] w fun e w' => e = .returned (.slice (some ⟨w.heap.size, 0, none⟩) 64 64) ∧ w' = w.alloc (.cells (mdKs.map fun (x : Nat) => Value.int .u32 (x : Int)).toArray 94) := by
  go_enter Tryz.func59, Tryz.ntmps59
  go_wp2_with fail
  go_ret
  exact ⟨rfl, rfl⟩

/-- a slice of the call's own as bytes in memory. -/
theorem Own.bs {w : World} {base : Nat} {v : Value} {l : List Nat} (h : Own w base v l) (hl : 0 < l.length) (h8 : ∀ x ∈ l, x < 256) : ∃ g cap, v = .slice (some ⟨g, 0, none⟩) l.length cap ∧ base ≤ g ∧ Bs w g 0 l.length (fun i => l.getD i 0) := by
  rcases h.2 with ⟨_, h0⟩ | ⟨g, cap, cur, hv, hb, hh, hc, _, hcs, ht⟩
  · omega
  · refine ⟨g, cap, hv, hb, (Array.getElem?_eq_some_iff.1 hh).1, fun i => ?_, fun i hi => ?_⟩
    · show l.getD i 0 < 256
      rw [List.getD_eq_getElem?_getD]
      cases e : l[i]? with
      | none => simp
      | some x => simpa using h8 x (List.mem_of_getElem? e)
    · have e : (cl l)[i]? = some (.int .u8 ((l.getD i 0 : Nat) : Int)) := by simp [cl, List.getD_eq_getElem?_getD, hi]
      rw [← ht, Nat.mul_one, List.getElem?_take, if_pos hi] at e
      simp only [World.cell?, hh, Nat.zero_add]
      simpa using e
end Go.Proofs.YtkjolaoajbdomaaGreatDoor.Hs
namespace Go.Proofs.YtkjolaoajbdomaaGreatDoor.Hs
open Go.RowKit
set_option linter.unusedVariables false
set_option linter.unusedSimpArgs false

theorem brefl (w : World) : Below w.heap.size w w := Below.refl _ _
theorem balloc {a b : World} (h : Below a.heap.size a b) (o : Obj) : Below a.heap.size a (b.alloc o) := h.alloc h.size o
theorem bstep {a b c : World} (h : Below a.heap.size a b) (k : Below b.heap.size b c) : Below a.heap.size a c := h.trans (k.mono h.size)
theorem bdrew {a b : World} (h : Below a.heap.size a b) (n : Nat) : Below a.heap.size a (b.drewN n) := h.trans ⟨rfl, rfl, rfl, Nat.le_refl _, fun _ _ => rfl⟩
theorem Own.le {w : World} {base base' : Nat} {v : Value} {l : List Nat} (h : Own w base v l) (hb : base' ≤ base) : Own w base' v l :=
  ⟨h.1, h.2.elim Or.inl (fun ⟨g, cap, cur, hv, hg, r⟩ => Or.inr ⟨g, cap, cur, hv, Nat.le_trans hb hg, r⟩)⟩
theorem pd_byte {low : Bool} {f : Nat → Nat} {n : Nat} (hf : ∀ i, f i < 256) : ∀ x ∈ pd low f n, x < 256 := by
  intro x hx
  simp only [pd, bl, lb, List.mem_append, List.mem_map, List.mem_range, List.mem_cons, List.mem_replicate, List.not_mem_nil, or_false] at hx
  rcases hx with ((⟨i, _, rfl⟩ | rfl) | ⟨_, rfl⟩) | ⟨i, _, rfl⟩
  · exact hf i
  · omega
  · omega
  · unfold lbAt; omega
theorem rmdTable_b (w : World) :
    Calls Tryz.prog 59 #[] w fun e w' => e = .returned (.slice (some ⟨w.heap.size, 0, none⟩) 64 64) ∧ Ws w' w.heap.size 0 64 mdK ∧ Below w.heap.size w w' :=
  (rmdTable_c w).mono fun e w' ⟨he, hw⟩ => by
    subst hw
    exact ⟨he, cells_ws (l := mdKs) (by decide), balloc (brefl w) _⟩
def Ts (w : World) (b : Nat) : Prop := b < w.heap.size ∧ ∀ i, i < 16 → w.cell? ⟨b, i, none⟩ = some (.int .i64 ((mdTs.getD i 0 : Nat) : Int))
theorem Ts.below {w w' : World} {b : Nat} (h : Ts w b) (k : Below w.heap.size w w') : Ts w' b :=
  ⟨Nat.lt_of_lt_of_le h.1 k.size, fun i hi => (k.cell (p := ⟨b, i, none⟩) h.1).trans (h.2 i hi)⟩
def Sw (w : World) (b : Nat) (s : S4) : Prop :=
  b < w.heap.size ∧ w.cell? ⟨b, 0, none⟩ = some (.int .u32 s.a) ∧ w.cell? ⟨b, 1, none⟩ = some (.int .u32 s.b) ∧ w.cell? ⟨b, 2, none⟩ = some (.int .u32 s.c) ∧ w.cell? ⟨b, 3, none⟩ = some (.int .u32 s.d) ∧ w.frozen? ⟨b, 0, none⟩ = false ∧ w.frozen? ⟨b, 1, none⟩ = false ∧ w.frozen? ⟨b, 2, none⟩ = false ∧ w.frozen? ⟨b, 3, none⟩ = false
theorem Bs.belowB {B : Nat} {w w' : World} {b off n : Nat} {f : Nat → Nat} (h : Bs w b off n f) (hb : b < B) (k : Below B w w') : Bs w' b off n f :=
  ⟨Nat.lt_of_lt_of_le h.1 k.size, h.2.1, fun i hi => (k.cell (p := ⟨b, off + i, none⟩) hb).trans (h.2.2 i hi)⟩
theorem Ws.belowB {B : Nat} {w w' : World} {b off n : Nat} {f : Nat → Nat} (h : Ws w b off n f) (hb : b < B) (k : Below B w w') : Ws w' b off n f :=
  ⟨Nat.lt_of_lt_of_le h.1 k.size, h.2.1, fun i hi => (k.cell (p := ⟨b, off + i, none⟩) hb).trans (h.2.2 i hi)⟩
theorem Ts.belowB {B : Nat} {w w' : World} {b : Nat} (h : Ts w b) (hb : b < B) (k : Below B w w') : Ts w' b :=
  ⟨Nat.lt_of_lt_of_le h.1 k.size, fun i hi => (k.cell (p := ⟨b, i, none⟩) hb).trans (h.2 i hi)⟩
theorem Sw.below {w w' : World} {b : Nat} {s : S4} (h : Sw w b s) (k : Below w.heap.size w w') : Sw w' b s := by
  obtain ⟨h0, h1, h2, h3, h4, h5, h6, h7, h8⟩ := h
  exact ⟨Nat.lt_of_lt_of_le h0 k.size, (k.cell (p := ⟨b, 0, none⟩) h0).trans h1, (k.cell (p := ⟨b, 1, none⟩) h0).trans h2, (k.cell (p := ⟨b, 2, none⟩) h0).trans h3, (k.cell (p := ⟨b, 3, none⟩) h0).trans h4, (k.frozen (p := ⟨b, 0, none⟩) h0).trans h5, (k.frozen (p := ⟨b, 1, none⟩) h0).trans h6, (k.frozen (p := ⟨b, 2, none⟩) h0).trans h7, (k.frozen (p := ⟨b, 3, none⟩) h0).trans h8⟩
theorem Sw.set4 {w : World} {b : Nat} {s : S4} (h : Sw w b s) (r : S4) : Sw ((((w.setCell ⟨b, 0, none⟩ (.int .u32 r.a)).setCell ⟨b, 1, none⟩ (.int .u32 r.b)).setCell ⟨b, 2, none⟩ (.int .u32 r.c)).setCell ⟨b, 3, none⟩ (.int .u32 r.d)) b r := by
  obtain ⟨h0, h1, h2, h3, h4, h5, h6, h7, h8⟩ := h
  refine ⟨by simpa [World.setCell] using h0, ?_, ?_, ?_, ?_, by simpa [go_sem] using h5, by simpa [go_sem] using h6, by simpa [go_sem] using h7, by simpa [go_sem] using h8⟩ <;> simp [go_sem, h1, h2, h3, h4]
theorem T16 (w : World) (o : Obj) : Ts ((w.alloc (.cells #[.int .i64 7, .int .i64 12, .int .i64 17, .int .i64 22, .int .i64 5, .int .i64 9, .int .i64 14, .int .i64 20, .int .i64 4, .int .i64 11, .int .i64 16, .int .i64 23, .int .i64 6, .int .i64 10, .int .i64 15, .int .i64 21] 3)).alloc o) w.heap.size := by
  have h : Ts (w.alloc (.cells #[.int .i64 7, .int .i64 12, .int .i64 17, .int .i64 22, .int .i64 5, .int .i64 9, .int .i64 14, .int .i64 20, .int .i64 4, .int .i64 11, .int .i64 16, .int .i64 23, .int .i64 6, .int .i64 10, .int .i64 15, .int .i64 21] 3)) w.heap.size := by
    refine ⟨by simp, fun i hi => ?_⟩
    rw [World.cell?_alloc_mark]
    match i, hi with
    | 0, _ => rfl
    | 1, _ => rfl
    | 2, _ => rfl
    | 3, _ => rfl
    | 4, _ => rfl
    | 5, _ => rfl
    | 6, _ => rfl
    | 7, _ => rfl
    | 8, _ => rfl
    | 9, _ => rfl
    | 10, _ => rfl
    | 11, _ => rfl
    | 12, _ => rfl
    | 13, _ => rfl
    | 14, _ => rfl
    | 15, _ => rfl
    | _ + 16, h => exact absurd h (by omega)
  exact h.below (balloc (brefl _) o)
theorem S16 (w : World) (F : Nat → Nat) : Sw (w.alloc (.cells #[.int .u32 1732584193, .int .u32 4023233417, .int .u32 2562383102, .int .u32 271733878] 94)) w.heap.size (mdSt F 0) :=
  ⟨by simp, by simp [go_sem, mdSt], by simp [go_sem, mdSt], by simp [go_sem, mdSt], by simp [go_sem, mdSt], by simp [go_sem], by simp [go_sem], by simp [go_sem], by simp [go_sem]⟩
theorem S16' (w : World) (o : Obj) (F : Nat → Nat) : Sw ((w.alloc o).alloc (.cells #[.int .u32 1732584193, .int .u32 4023233417, .int .u32 2562383102, .int .u32 271733878] 94)) (w.heap.size + 1) (mdSt F 0) := by
  have h := S16 (w.alloc o) F
  rwa [show (w.alloc o).heap.size = w.heap.size + 1 from by simp] at h

set_option maxRecDepth 100000 in
set_option maxHeartbeats 4000000 in
theorem rMD5_c (a : Option Addr) (n cap : Nat) (f : Nat → Nat) (w : World) (hn : n ≤ 140737488351296) (hf : ∀ i, f i < 256)
    (HA : Hid (∀ ty, ∃ v' w', (Builtin.append_ #[28, 28] ty #[.slice none 0 0, .slice a n cap]).run Tryz.prog w = .ok v' w' ∧ Own w' w.heap.size v' (bl f n) ∧ Below w.heap.size w w' ∧ w.heap.size ≤ w'.heap.size)) :
    Calls Tryz.prog 48 #[.slice a n cap] w fun e w' => (∃ v, e = .returned v ∧ Own w' w.heap.size v (md5 f n)) ∧ Below w.heap.size w w' := by
  have PB := Lib.hid (pd_byte (low := true) (n := n) hf)
  go_enter Tryz.func48, Tryz.ntmps48
  go_wp2_with fail
  refine (rpad_low a n cap f _ hn HA).mono ?_
  rintro e w1 ⟨⟨v, rfl, own⟩, hb⟩
  have NL := pd_len true f n
  obtain ⟨gp, cp, rfl, g1, bs⟩ := own.bs (by omega) PB.out
  have HB := Lib.hid hb
  have BS := Lib.hid bs
  clear own hb bs HA PB
  rw [NL] at BS
  rw [NL]
  clear NL
  go_wp2_with fail
  refine (rmdTable_b _).mono ?_
  rintro e w2 ⟨rfl, ws, hb⟩
  obtain ⟨nb, eN⟩ : ∃ nb, n + 1 + zz n + 8 = 64 * nb := ⟨(n + 1 + zz n + 8) / 64, by have := (zz_at n).1; omega⟩
  have bN : nb ≤ 2199023255552 := by have := (zz_at n).2; omega
  have EM : Hid (md5 f n = ob true (mdSt (fun i => (pd true f n).getD i 0) nb).at 4) := Lib.hid (by unfold md5; rw [eN, show 64 * nb / 64 = nb from by omega])
  rw [eN] at BS
  rw [eN]
  clear eN
  generalize (fun i => (pd true f n).getD i 0) = F at *
  have WS := Lib.hid (balloc (balloc (brefl w2) (.cells #[.int .i64 7, .int .i64 12, .int .i64 17, .int .i64 22, .int .i64 5, .int .i64 9, .int .i64 14, .int .i64 20, .int .i64 4, .int .i64 11, .int .i64 16, .int .i64 23, .int .i64 6, .int .i64 10, .int .i64 15, .int .i64 21] 3)) (.cells #[.int .u32 1732584193, .int .u32 4023233417, .int .u32 2562383102, .int .u32 271733878] 94))
  have BS0 := Lib.hid ((BS.out.below hb).below WS.out)
  have KS0 := Lib.hid (ws.below WS.out)
  have TS0 := Lib.hid (T16 w2 (.cells #[.int .u32 1732584193, .int .u32 4023233417, .int .u32 2562383102, .int .u32 271733878] 94))
  have SW0 := Lib.hid (S16' w2 (.cells #[.int .i64 7, .int .i64 12, .int .i64 17, .int .i64 22, .int .i64 5, .int .i64 9, .int .i64 14, .int .i64 20, .int .i64 4, .int .i64 11, .int .i64 16, .int .i64 23, .int .i64 6, .int .i64 10, .int .i64 15, .int .i64 21] 3) F)
  have HB0 := Lib.hid (bstep (bstep HB.out hb) WS.out)
  have L1 : gp < w1.heap.size := BS.out.1
  have L2 : w1.heap.size < w2.heap.size := ws.1
  have L3 := HB.out.size
  clear BS HB WS ws hb hn hf
  go_wp2_with fail
  generalize (w2.alloc (.cells #[.int .i64 7, .int .i64 12, .int .i64 17, .int .i64 22, .int .i64 5, .int .i64 9, .int .i64 14, .int .i64 20, .int .i64 4, .int .i64 11, .int .i64 16, .int .i64 23, .int .i64 6, .int .i64 10, .int .i64 15, .int .i64 21] 3)).alloc (.cells #[.int .u32 1732584193, .int .u32 4023233417, .int .u32 2562383102, .int .u32 271733878] 94) = W0 at *
  go_loopw [7] (fun i wr => ∃ t : Nat, t ≤ nb ∧ i = .int .i64 (64 * (t : Int)) ∧ Sw wr (w2.heap.size + 1) (mdSt F t) ∧ Below (w2.heap.size + 1) W0 wr) (fun i _ => 64 * nb - (intOf i).toNat)
  case atStart => exact ⟨0, Nat.zero_le _, rfl, SW0.out, Below.refl _ _⟩
  case round =>
    obtain ⟨t, ht, rfl, sw, bw⟩ := hrel
    rename World => w5
    by_cases c : t < nb
    · have e0 : decide (64 * (t : Int) < 64 * (nb : Int)) = true := by rw [decide_eq_true_iff]; omega
      have e0' : decide ((t : Int) < (nb : Int)) = true := by rw [decide_eq_true_iff]; omega
      have SO := mdSt_ok F t
      have SW := Lib.hid sw
      have BW := Lib.hid bw
      have bw5 : Hid (∀ w6 : World, Below w5.heap.size w5 w6 → Below (w2.heap.size + 1) W0 w6) := Lib.hid fun w6 k => bw.trans (k.mono (by have := sw.1; omega))
      have BS := Lib.hid (BS0.out.belowB (by omega) bw)
      have KS := Lib.hid (KS0.out.belowB (by omega) bw)
      have TS := Lib.hid (TS0.out.belowB (by omega) bw)
      have RS : Hid (mdSt F (t + 1) = mdAdd (mdSt F t) (mdRun (fun g => wrd true F (64 * t + 4 * g)) (mdSt F t) 64)) := rfl
      have MO := Lib.hid (fun k => mdRun_ok (M := fun g => wrd true F (64 * t + 4 * g)) SO k)
      have RR : Hid (∀ k, mdRun (fun g => wrd true F (64 * t + 4 * g)) (mdSt F t) (k + 1) = mdOne (fun g => wrd true F (64 * t + 4 * g)) k (mdRun (fun g => wrd true F (64 * t + 4 * g)) (mdSt F t) k)) := fun k => rfl
      have R0 : Hid (mdRun (fun g => wrd true F (64 * t + 4 * g)) (mdSt F t) 0 = mdSt F t) := rfl
      generalize mdRun (fun g => wrd true F (64 * t + 4 * g)) (mdSt F t) = Rn at *
      obtain ⟨s1, s2, s3, s4, s5, s6, s7, s8, s9⟩ := sw
      clear bw
      go_wp2_with fail
      clear e0 e0' s1 s2 s3 s4 s5 s6 s7 s8 s9
      go_loopw [8, 9, 10, 11, 12] (fun a b c d i w6 => ∃ k q : Nat, k ≤ 64 ∧ i = .int .i64 k ∧ a = .int .u32 (Rn k).a ∧ b = .int .u32 (Rn k).b ∧ c = .int .u32 (Rn k).c ∧ d = .int .u32 (Rn k).d ∧ w6 = w5.drewN q) (fun _ _ _ _ i _ => 64 - (intOf i).toNat)
      case atStart => exact ⟨0, 0, by omega, rfl, by rw [R0.out], by rw [R0.out], by rw [R0.out], by rw [R0.out], rfl⟩
      case round =>
        obtain ⟨k, q, hk, rfl, rfl, rfl, rfl, rfl, hw6⟩ := hrel
        rename World => w6
        have D6 : Below w5.heap.size w5 w6 := by rw [hw6]; exact bdrew (brefl w5) q
        have HW6 := Lib.hid hw6
        clear hw6
        have OK := MO.out k
        have RK := Lib.hid (RR.out k)
        have NX : Hid (Rn (k + 1) = ⟨(Rn k).d, ((Rn k).b + rol (mdf (fun g => wrd true F (64 * t + 4 * g)) k (Rn k)) (mdT k)) % 4294967296, (Rn k).b, (Rn k).c⟩) := RK
        clear RK
        by_cases c4 : k < 64
        · have e0 : decide ((k : Int) < 64) = true := by rw [decide_eq_true_iff]; omega
          have EF : Hid (mdf (fun g => wrd true F (64 * t + 4 * g)) k (Rn k) = (mF k (Rn k).b (Rn k).c (Rn k).d + (Rn k).a + mdK k + wrd true F (64 * t + 4 * mG k)) % 4294967296) := rfl
          generalize mdf (fun g => wrd true F (64 * t + 4 * g)) k (Rn k) = fs at *
          have ST := Lib.hid (fun w => rmdStep_c k (Rn k).b (Rn k).c (Rn k).d w (by omega) OK.2.1 OK.2.2.1 OK.2.2.2)
          have GL := mG_lt k
          have FL := mF_lt k OK.2.1 OK.2.2.1 OK.2.2.2
          have WL := wrd_lt true F BS.out.2.1 (64 * t + 4 * mG k)
          have KL := mdK_lt k c4
          have TL := mdT_bd k c4
          have WC : Hid (∀ q, Calls Tryz.prog 61 #[.slice (some ⟨gp, 0, none⟩) (64 * nb) cp, .int .i64 (64 * (t : Int) + 4 * (mG k : Int)), .bool true] (w6.drewN q) fun e w' => e = .returned (.int .u32 (wrd true F (64 * t + 4 * mG k))) ∧ w' = w6.drewN q) := Lib.hid fun q => by
            have h := rword_low gp 0 (64 * nb) cp (64 * t + 4 * mG k) F (w6.drewN q) ((BS.out.below D6).below (bdrew (brefl w6) q)) (by omega) (by omega)
            rwa [show ((64 * t + 4 * mG k : Nat) : Int) = 64 * (t : Int) + 4 * (mG k : Int) from by omega] at h
          have FF : fs < 4294967296 := by rw [EF.out]; exact Nat.mod_lt _ (by omega)
          have LC := Lib.hid (fun w => rleft_c fs (mdT k) w FF TL.1 TL.2)
          have RL := (rol_or fs (mdT k) FF TL.1 TL.2).2
          have EI : (fs : Int) = ((mF k (Rn k).b (Rn k).c (Rn k).d : Int) + (Rn k).a + mdK k + wrd true F (64 * t + 4 * mG k)) % 4294967296 := by rw [EF.out]; simp
          rw [EI] at LC
          clear EI EF FF
          generalize rol fs (mdT k) = rl at *
          have KC : w6.cell? ⟨w1.heap.size, k, none⟩ = some (.int .u32 (mdK k)) := by simpa using (KS.out.below D6).2.2 k c4
          have TC : w6.cell? ⟨w2.heap.size, 4 * (k / 16) + k % 4, none⟩ = some (.int .i64 (mdT k)) := (TS.out.below D6).2 (4 * (k / 16) + k % 4) (by omega)
          generalize mF k (Rn k).b (Rn k).c (Rn k).d = ff at *
          generalize mG k = gg at *
          generalize wrd true F (64 * t + 4 * gg) = ww at *
          generalize mdK k = kk at *
          generalize mdT k = tt at *
          obtain ⟨o1, o2, o3, o4⟩ := OK
          generalize (Rn k).a = ra at *
          generalize (Rn k).b = rb at *
          generalize (Rn k).c = rc at *
          generalize (Rn k).d = rd at *
          have k0 : (0 : Int) ≤ (k : Int) := by omega
          have k1 : (k : Int) < 64 := by omega
          have t0 : (t : Int) < (nb : Int) := by omega
          have nb0 : (nb : Int) ≤ 2199023255552 := by omega
          have g0 : (gg : Int) < 16 := by omega
          have d0 : (k : Int).tdiv 16 = ((k / 16 : Nat) : Int) := by rw [Int.tdiv_eq_ediv_of_nonneg k0]; omega
          have d1 : (k : Int).tmod 4 = ((k % 4 : Nat) : Int) := by rw [Int.tmod_eq_emod_of_nonneg k0]; omega
          have d2 : k / 16 ≤ 3 := by omega
          have d3 : k % 4 ≤ 3 := by omega
          clear D6
          go_wp2_with fail
          refine (ST.out _).mono ?_
          rintro e w' ⟨rfl, rfl⟩
          go_wp2_with fail
          go_quiet ((go_at_call 61; with_reducible exact Calls.quiet_of_same (WC.out _)))
          go_wp2_with fail
          refine (LC.out _).mono ?_
          rintro e w'' ⟨rfl, rfl⟩
          go_wp2_with fail
          go_roundw
          case rel => exact ⟨k + 1, q + nq, by omega, by go_num, by rw [NX.out], by rw [NX.out]; simp, by rw [NX.out], by rw [NX.out], by rw [HW6.out]; simp⟩
          case measure => simp [intOf]; omega
        · have e0 : decide ((k : Int) < 64) = false := by rw [decide_eq_false_iff_not]; omega
          obtain rfl : k = 64 := by omega
          have S6 := Lib.hid (SW.out.below D6)
          have B6 := Lib.hid (bw5.out _ D6)
          have RT : Hid (mdSt F (t + 1) = ⟨((mdSt F t).a + (Rn 64).a) % 4294967296, ((mdSt F t).b + (Rn 64).b) % 4294967296, ((mdSt F t).c + (Rn 64).c) % 4294967296, ((mdSt F t).d + (Rn 64).d) % 4294967296⟩) := RS
          clear NX RS MO RR R0 D6 HW6
          obtain ⟨o1, o2, o3, o4⟩ := OK
          obtain ⟨p1, p2, p3, p4⟩ := SO
          generalize (Rn 64).a = ra at *
          generalize (Rn 64).b = rb at *
          generalize (Rn 64).c = rc at *
          generalize (Rn 64).d = rd at *
          obtain ⟨s1, s2, s3, s4, s5, s6, s7, s8, s9⟩ := S6.out
          generalize (mdSt F t).a = sa at *
          generalize (mdSt F t).b = sb at *
          generalize (mdSt F t).c = sc at *
          generalize (mdSt F t).d = sd at *
          have t0 : (t : Int) < (nb : Int) := by omega
          have nb0 : (nb : Int) ≤ 2199023255552 := by omega
          go_wp2_with fail
          rw [show ((sa : Int) + (ra : Int)) % 4294967296 = (((sa + ra) % 4294967296 : Nat) : Int) from by omega, show ((sb : Int) + (rb : Int)) % 4294967296 = (((sb + rb) % 4294967296 : Nat) : Int) from by omega, show ((sc : Int) + (rc : Int)) % 4294967296 = (((sc + rc) % 4294967296 : Nat) : Int) from by omega, show ((sd : Int) + (rd : Int)) % 4294967296 = (((sd + rd) % 4294967296 : Nat) : Int) from by omega]
          go_roundw
          case rel => exact ⟨t + 1, by omega, by congr 1, by rw [RT.out]; exact S6.out.set4 ⟨_, _, _, _⟩, (((B6.out.setCell (Nat.le_refl _) _).setCell (Nat.le_refl _) _).setCell (Nat.le_refl _) _).setCell (Nat.le_refl _) _⟩
          case measure => simp [intOf]; omega
    · have e0 : decide (64 * (t : Int) < 64 * (nb : Int)) = false := by rw [decide_eq_false_iff_not]; omega
      have e0' : decide ((t : Int) < (nb : Int)) = false := by rw [decide_eq_false_iff_not]; omega
      obtain rfl : t = nb := by omega
      have SO := mdSt_ok F t
      have W4 : Ws w5 (w2.heap.size + 1) 0 4 (mdSt F t).at := by
        obtain ⟨s1, s2, s3, s4, s5, _⟩ := sw
        refine ⟨s1, fun i hi => ?_, fun i hi => ?_⟩
        · match i, hi with
          | 0, _ => exact SO.1
          | 1, _ => exact SO.2.1
          | 2, _ => exact SO.2.2.1
          | 3, _ => exact SO.2.2.2
          | _ + 4, h => exact absurd h (by omega)
        · match i, hi with
          | 0, _ => exact s2
          | 1, _ => exact s3
          | 2, _ => exact s4
          | 3, _ => exact s5
          | _ + 4, h => exact absurd h (by omega)
      have HW4 := Lib.hid W4
      have BZ := Lib.hid (HB0.out.trans (bw.mono (by omega)))
      clear W4 sw bw
      go_wp2_with fail
      refine (rbytes_low _ _ _ _ _ _ HW4.out (by omega)).mono ?_
      rintro e w7 ⟨⟨v, rfl, own⟩, hb⟩
      have OW := Lib.hid (own.le BZ.out.size)
      have BE := Lib.hid (bstep BZ.out hb)
      clear own hb
      go_wp2_with fail
      go_ret
      exact ⟨⟨_, rfl, by rw [EM.out]; exact OW.out⟩, BE.out⟩
end Go.Proofs.YtkjolaoajbdomaaGreatDoor.Hs
namespace Go.Proofs.YtkjolaoajbdomaaGreatDoor.Hs
open Go.RowKit
set_option linter.unusedVariables false
set_option linter.unusedSimpArgs false

theorem ha_some {w : World} {b off n cap : Nat} {f : Nat → Nat} (B : Bs w b off n f) (hn : n ≤ 140737488351296) (ty : TypeId) :
    ∃ v' w', (Builtin.append_ #[28, 28] ty #[.slice none 0 0, .slice (some ⟨b, off, none⟩) n cap]).run Tryz.prog w = .ok v' w' ∧ Own w' w.heap.size v' (bl f n) ∧ Below w.heap.size w w' ∧ w.heap.size ≤ w'.heap.size := by
  obtain ⟨v', w', h1, h2, h3, h4⟩ := appB (Own.nil w w.heap.size) B cap (Nat.le_refl _) (by simp; omega) ty
  exact ⟨v', w', h1, by simpa using h2, h3, h4⟩
theorem rMD5_some (b off n cap : Nat) (f : Nat → Nat) (w : World) (hn : n ≤ 140737488351296) (B : Bs w b off n f) :
    Calls Tryz.prog 48 #[.slice (some ⟨b, off, none⟩) n cap] w fun e w' => (∃ v, e = .returned v ∧ Own w' w.heap.size v (md5 f n)) ∧ Below w.heap.size w w' :=
  rMD5_c (some ⟨b, off, none⟩) n cap f w hn B.2.1 (Lib.hid fun ty => ha_some B hn ty)
theorem ha_nil (w : World) (f : Nat → Nat) (ty : TypeId) :
    ∃ v' w', (Builtin.append_ #[28, 28] ty #[.slice none 0 0, .slice none 0 0]).run Tryz.prog w = .ok v' w' ∧ Own w' w.heap.size v' (bl f 0) ∧ Below w.heap.size w w' ∧ w.heap.size ≤ w'.heap.size := by
  obtain ⟨i, hi, hz, hs, hby⟩ := info_parts info_u8
  refine ⟨.slice none 0 0, w, ?_, Own.nil _ _, Below.refl _ _, Nat.le_refl _⟩
  exact run_append_nothing (P := Tryz.prog) w 28 28 ty 5 i Tryz.underlying28 hi none 0 0 (Nat.le_refl _) _ (Src.ofNil w Tryz.underlying28 0)
theorem rMD5_nil (f : Nat → Nat) (hf : ∀ i, f i < 256) (w : World) :
    Calls Tryz.prog 48 #[.slice none 0 0] w fun e w' => (∃ v, e = .returned v ∧ Own w' w.heap.size v (md5 f 0)) ∧ Below w.heap.size w w' :=
  rMD5_c none 0 0 f w (by omega) hf (Lib.hid fun ty => ha_nil w f ty)
/-- bytes as a string. -/
def bs8 (l : List Nat) : ByteArray := ⟨(l.map UInt8.ofNat).toArray⟩
theorem conv_bs {w : World} {b off n : Nat} {f : Nat → Nat} (B : Bs w b off n f) (cap : Nat) :
    (convert 28 9 (.slice (some ⟨b, off, none⟩) n cap)).run Tryz.prog w = .ok (.string (bs8 (bl f n))) w := by
  have h := run_convert_bytes_back (P := Tryz.prog) w 28 9 5 ⟨b, off, none⟩ cap ((bl f n).map UInt8.ofNat) Tryz.underlying28 Tryz.underlying5 Tryz.underlying9 (by
    intro j hj
    have hj' : j < n := by simpa [bl_len] using hj
    have e := B.2.2 j hj'
    have g := B.2.1 j
    have x : ((UInt8.ofNat (f j)).toNat : Int) = (f j : Int) := by rw [UInt8.toNat_ofNat']; omega
    have y : ((bl f n).map UInt8.ofNat)[j] = UInt8.ofNat (f j) := by simp [bl]
    rw [y, x]
    cases j <;> simpa [Addr.add] using e)
  rw [List.length_map, bl_len] at h
  exact h
theorem bs8_inj {l k : List Nat} (hl : ∀ x ∈ l, x < 256) (hk : ∀ x ∈ k, x < 256) (h : bs8 l = bs8 k) : l = k := by
  have h2 : l.map UInt8.ofNat = k.map UInt8.ofNat := by
    have := congrArg (fun b : ByteArray => b.data.toList) h
    simpa [bs8] using this
  have h3 := congrArg (List.map UInt8.toNat) h2
  simp only [List.map_map] at h3
  have e : ∀ l : List Nat, (∀ x ∈ l, x < 256) → l.map (UInt8.toNat ∘ UInt8.ofNat) = l := fun l hl => by
    conv => rhs; rw [← List.map_id l]
    apply List.map_congr_left
    intro x hx
    have := hl x hx
    simp only [Function.comp, id]
    rw [UInt8.toNat_ofNat']
    omega
  rwa [e l hl, e k hk] at h3

end Go.Proofs.YtkjolaoajbdomaaGreatDoor.Hs

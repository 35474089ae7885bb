/-
  MD5 in numbers; the contracts of sundialref04.mdTable and shaTable; bytes of the call's own as bytes in memory.
  Conditions: none.
-/
import Derived.Test.YtenlbjnoiamfiaaDoorHsF
namespace Go.Proofs.YtenlbjnoiamfiaaDoor.Hs
open Go.RowKit
set_option linter.unusedVariables false
set_option linter.unusedSimpArgs false

def mdKs : List Nat := [3614090360, 3905402710, 606105819, 3250441966, 4118548399, 1200080426, 2821735955, 4249261313, 1770035416, 2336552879, 4294925233, 2304563134, 1804603682, 4254626195, 2792965006, 1236535329, 4129170786, 3225465664, 643717713, 3921069994, 3593408605, 38016083, 3634488961, 3889429448, 568446438, 3275163606, 4107603335, 1163531501, 2850285829, 4243563512, 1735328473, 2368359562, 4294588738, 2272392833, 1839030562, 4259657740, 2763975236, 1272893353, 4139469664, 3200236656, 681279174, 3936430074, 3572445317, 76029189, 3654602809, 3873151461, 530742520, 3299628645, 4096336452, 1126891415, 2878612391, 4237533241, 1700485571, 2399980690, 4293915773, 2240044497, 1873313359, 4264355552, 2734768916, 1309151649, 4149444226, 3174756917, 718787259, 3951481745]
def shaKs : List Nat := [1116352408, 1899447441, 3049323471, 3921009573, 961987163, 1508970993, 2453635748, 2870763221, 3624381080, 310598401, 607225278, 1426881987, 1925078388, 2162078206, 2614888103, 3248222580, 3835390401, 4022224774, 264347078, 604807628, 770255983, 1249150122, 1555081692, 1996064986, 2554220882, 2821834349, 2952996808, 3210313671, 3336571891, 3584528711, 113926993, 338241895, 666307205, 773529912, 1294757372, 1396182291, 1695183700, 1986661051, 2177026350, 2456956037, 2730485921, 2820302411, 3259730800, 3345764771, 3516065817, 3600352804, 4094571909, 275423344, 430227734, 506948616, 659060556, 883997877, 958139571, 1322822218, 1537002063, 1747873779, 1955562222, 2024104815, 2227730452, 2361852424, 2428436474, 2756734187, 3204031479, 3329325298]
def mdK (i : Nat) : Nat := mdKs.getD i 0
def shaK (i : Nat) : Nat := shaKs.getD i 0
def mdTs : List Nat := [7, 12, 17, 22, 5, 9, 14, 20, 4, 11, 16, 23, 6, 10, 15, 21]
def mdT (i : Nat) : Nat := mdTs.getD (4 * (i / 16) + i % 4) 0
theorem mdT_bd : ∀ i, i < 64 → 1 ≤ mdT i ∧ mdT i ≤ 31 := by decide
theorem mdK_lt : ∀ i, i < 64 → mdK i < 4294967296 := by decide
theorem shaK_lt : ∀ i, i < 64 → shaK i < 4294967296 := by decide
structure S4 where
  a : Nat
  b : Nat
  c : Nat
  d : Nat
/-- one step of MD5. -/
def mdf (M : Nat → Nat) (i : Nat) (s : S4) : Nat := (mF i s.b s.c s.d + s.a + mdK i + M (mG i)) % 4294967296
def mdOne (M : Nat → Nat) (i : Nat) (s : S4) : S4 := ⟨s.d, (s.b + rol (mdf M i s) (mdT i)) % 4294967296, s.b, s.c⟩
/-- the first k steps. -/
def mdRun (M : Nat → Nat) (s : S4) : Nat → S4
  | 0 => s
  | k + 1 => mdOne M k (mdRun M s k)
def mdAdd (s r : S4) : S4 := ⟨(s.a + r.a) % 4294967296, (s.b + r.b) % 4294967296, (s.c + r.c) % 4294967296, (s.d + r.d) % 4294967296⟩
/-- the state behind t blocks. -/
def mdSt (F : Nat → Nat) : Nat → S4
  | 0 => ⟨1732584193, 4023233417, 2562383102, 271733878⟩
  | t + 1 => mdAdd (mdSt F t) (mdRun (fun g => wrd true F (64 * t + 4 * g)) (mdSt F t) 64)
def S4.at (s : S4) (i : Nat) : Nat := [s.a, s.b, s.c, s.d].getD i 0
def S4.ok (s : S4) : Prop := s.a < 4294967296 ∧ s.b < 4294967296 ∧ s.c < 4294967296 ∧ s.d < 4294967296
theorem mdOne_ok {M : Nat → Nat} {i : Nat} {s : S4} (h : s.ok) : (mdOne M i s).ok := ⟨h.2.2.2, Nat.mod_lt _ (by omega), h.2.1, h.2.2.1⟩
theorem mdRun_ok {M : Nat → Nat} {s : S4} (h : s.ok) : ∀ k, (mdRun M s k).ok
  | 0 => h
  | k + 1 => mdOne_ok (mdRun_ok h k)
theorem mdSt_ok (F : Nat → Nat) : ∀ t, (mdSt F t).ok
  | 0 => by unfold mdSt S4.ok; decide
  | t + 1 => ⟨Nat.mod_lt _ (by omega), Nat.mod_lt _ (by omega), Nat.mod_lt _ (by omega), Nat.mod_lt _ (by omega)⟩
/-- the digest. -/
def md5 (f : Nat → Nat) (n : Nat) : List Nat := ob true (mdSt (fun i => (pd true f n).getD i 0) ((n + 1 + zz n + 8) / 64)).at 4

theorem cells_ws {w : World} {l : List Nat} (hl : ∀ x ∈ l, x < 4294967296) : Ws (w.alloc (.cells (l.map fun (x : Nat) => Value.int .u32 (x : Int)).toArray 29)) w.heap.size 0 l.length (fun i => l.getD i 0) := by
  refine ⟨by simp, fun i hi => ?_, fun i hi => ?_⟩
  · show l.getD i 0 < 4294967296
    rw [List.getD_eq_getElem?_getD, List.getElem?_eq_getElem hi]
    exact hl _ (List.getElem_mem hi)
  · rw [Nat.zero_add]
    exact (World.cell?_alloc_mark w _ _ (0, 0) i).trans (by simp [List.getD_eq_getElem?_getD, hi])

set_option maxRecDepth 100000 in
set_option maxHeartbeats 1000000 in
theorem rmdTable_c (w : World) :
    Calls Tryd.prog 22 #[] w fun e w' => e = .returned (.slice (some ⟨w.heap.size, 0, none⟩) 64 64) ∧ w' = w.alloc (.cells (mdKs.map fun (x : Nat) => Value.int .u32 (x : Int)).toArray 29) := by
  go_enter Tryd.func22, Tryd.ntmps22
  go_wp2_with fail
  go_ret
  exact ⟨rfl, rfl⟩

set_option maxRecDepth 100000 in
set_option maxHeartbeats 1000000 in
theorem rshaTable_c (w : World) :
    Calls Tryd.prog 30 #[] w fun e w' => e = .returned (.slice (some ⟨w.heap.size, 0, none⟩) 64 64) ∧ w' = w.alloc (.cells (shaKs.map fun (x : Nat) => Value.int .u32 (x : Int)).toArray 29) := by
  go_enter Tryd.func30, Tryd.ntmps30
  go_wp2_with fail
  go_ret
  exact ⟨rfl, rfl⟩

/-- a slice of the call's own as bytes in memory. -/
theorem Own.bs {w : World} {base : Nat} {v : Value} {l : List Nat} (h : Own w base v l) (hl : 0 < l.length) (h8 : ∀ x ∈ l, x < 256) : ∃ g cap, v = .slice (some ⟨g, 0, none⟩) l.length cap ∧ base ≤ g ∧ Bs w g 0 l.length (fun i => l.getD i 0) := by
  rcases h.2 with ⟨_, h0⟩ | ⟨g, cap, cur, hv, hb, hh, hc, _, hcs, ht⟩
  · omega
  · refine ⟨g, cap, hv, hb, (Array.getElem?_eq_some_iff.1 hh).1, fun i => ?_, fun i hi => ?_⟩
    · show l.getD i 0 < 256
      rw [List.getD_eq_getElem?_getD]
      cases e : l[i]? with
      | none => simp
      | some x => simpa using h8 x (List.mem_of_getElem? e)
    · have e : (cl l)[i]? = some (.int .u8 ((l.getD i 0 : Nat) : Int)) := by simp [cl, List.getD_eq_getElem?_getD, hi]
      rw [← ht, Nat.mul_one, List.getElem?_take, if_pos hi] at e
      simp only [World.cell?, hh, Nat.zero_add]
      simpa using e
end Go.Proofs.YtenlbjnoiamfiaaDoor.Hs

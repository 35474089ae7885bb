/-
  Words that lie in memory, and the contract of sundialref04.bytes: the bytes of words, in a slice of the call's own.
  Conditions: at most sixteen words.
  MD5 in numbers; the contracts of sundialref04.mdTable and shaTable; bytes of the call's own as bytes in memory.
  Conditions: none.
  The contract of sundialref04.MD5: the digest of bytes, in a slice of the call's own.
  Conditions: no more than 2^47 - 4096 bytes.
  MD5 of bytes that lie in memory, and of nil; sundialref04.Same.
  Conditions: no more than 2^47 - 4096 bytes.
-/
import Derived.Test.YtmehknhajoemgaaDoorHa
import Derived.Laws.IdiomStrings
namespace Go.Proofs.YtmehknhajoemgaaDoor.Hs
open Go.RowKit
set_option linter.unusedVariables false
set_option linter.unusedSimpArgs false

/-- n words begin at b, off: word i is g i. -/
def Ws (w : World) (b off n : Nat) (g : Nat → Nat) : Prop :=
  b < w.heap.size ∧ (∀ i, i < n → g i < 4294967296) ∧ ∀ i, i < n → w.cell? ⟨b, off + i, none⟩ = some (.int .u32 (g i))
theorem Ws.below {w w' : World} {b off n : Nat} {g : Nat → Nat} (h : Ws w b off n g) (k : Below w.heap.size w w') : Ws w' b off n g :=
  ⟨Nat.lt_of_lt_of_le h.1 k.size, h.2.1, fun i hi => (k.cell (p := ⟨b, off + i, none⟩) h.1).trans (h.2.2 i hi)⟩
/-- byte j of a word. -/
def wbAt (low : Bool) (x j : Nat) : Nat := x / 2 ^ (if low then 8 * j else 24 - 8 * j) % 256
def wb (low : Bool) (x k : Nat) : List Nat := (List.range k).map (wbAt low x)
theorem wb_succ (low : Bool) (x k : Nat) : wb low x (k + 1) = wb low x k ++ [wbAt low x k] := by simp [wb, List.range_succ]
theorem wb_len (low : Bool) (x k : Nat) : (wb low x k).length = k := by simp [wb]
/-- the bytes of the first n words. -/
def ob (low : Bool) (g : Nat → Nat) : Nat → List Nat
  | 0 => []
  | n + 1 => ob low g n ++ wb low (g n) 4
theorem ob_len (low : Bool) (g : Nat → Nat) : ∀ n, (ob low g n).length = 4 * n
  | 0 => rfl
  | n + 1 => by simp only [ob, List.length_append, ob_len low g n, wb_len]; omega

end Go.Proofs.YtmehknhajoemgaaDoor.Hs
namespace Go.Proofs.YtmehknhajoemgaaDoor.Hs
open Go.RowKit
set_option linter.unusedVariables false
set_option linter.unusedSimpArgs false

def mdKs : List Nat := [3614090360, 3905402710, 606105819, 3250441966, 4118548399, 1200080426, 2821735955, 4249261313, 1770035416, 2336552879, 4294925233, 2304563134, 1804603682, 4254626195, 2792965006, 1236535329, 4129170786, 3225465664, 643717713, 3921069994, 3593408605, 38016083, 3634488961, 3889429448, 568446438, 3275163606, 4107603335, 1163531501, 2850285829, 4243563512, 1735328473, 2368359562, 4294588738, 2272392833, 1839030562, 4259657740, 2763975236, 1272893353, 4139469664, 3200236656, 681279174, 3936430074, 3572445317, 76029189, 3654602809, 3873151461, 530742520, 3299628645, 4096336452, 1126891415, 2878612391, 4237533241, 1700485571, 2399980690, 4293915773, 2240044497, 1873313359, 4264355552, 2734768916, 1309151649, 4149444226, 3174756917, 718787259, 3951481745]
def shaKs : List Nat := [1116352408, 1899447441, 3049323471, 3921009573, 961987163, 1508970993, 2453635748, 2870763221, 3624381080, 310598401, 607225278, 1426881987, 1925078388, 2162078206, 2614888103, 3248222580, 3835390401, 4022224774, 264347078, 604807628, 770255983, 1249150122, 1555081692, 1996064986, 2554220882, 2821834349, 2952996808, 3210313671, 3336571891, 3584528711, 113926993, 338241895, 666307205, 773529912, 1294757372, 1396182291, 1695183700, 1986661051, 2177026350, 2456956037, 2730485921, 2820302411, 3259730800, 3345764771, 3516065817, 3600352804, 4094571909, 275423344, 430227734, 506948616, 659060556, 883997877, 958139571, 1322822218, 1537002063, 1747873779, 1955562222, 2024104815, 2227730452, 2361852424, 2428436474, 2756734187, 3204031479, 3329325298]
def mdK (i : Nat) : Nat := mdKs.getD i 0
def shaK (i : Nat) : Nat := shaKs.getD i 0
def mdTs : List Nat := [7, 12, 17, 22, 5, 9, 14, 20, 4, 11, 16, 23, 6, 10, 15, 21]
def mdT (i : Nat) : Nat := mdTs.getD (4 * (i / 16) + i % 4) 0
theorem mdT_bd : ∀ i, i < 64 → 1 ≤ mdT i ∧ mdT i ≤ 31 := by decide
theorem mdK_lt : ∀ i, i < 64 → mdK i < 4294967296 := by decide
theorem shaK_lt : ∀ i, i < 64 → shaK i < 4294967296 := by decide
structure S4 where
  a : Nat
  b : Nat
  c : Nat
  d : Nat
/-- one step of MD5. -/
def mdf (M : Nat → Nat) (i : Nat) (s : S4) : Nat := (mF i s.b s.c s.d + s.a + mdK i + M (mG i)) % 4294967296
def mdOne (M : Nat → Nat) (i : Nat) (s : S4) : S4 := ⟨s.d, (s.b + rol (mdf M i s) (mdT i)) % 4294967296, s.b, s.c⟩
/-- the first k steps. -/
def mdRun (M : Nat → Nat) (s : S4) : Nat → S4
  | 0 => s
  | k + 1 => mdOne M k (mdRun M s k)
def mdAdd (s r : S4) : S4 := ⟨(s.a + r.a) % 4294967296, (s.b + r.b) % 4294967296, (s.c + r.c) % 4294967296, (s.d + r.d) % 4294967296⟩
/-- the state behind t blocks. -/
def mdSt (F : Nat → Nat) : Nat → S4
  | 0 => ⟨1732584193, 4023233417, 2562383102, 271733878⟩
  | t + 1 => mdAdd (mdSt F t) (mdRun (fun g => wrd true F (64 * t + 4 * g)) (mdSt F t) 64)
def S4.at (s : S4) (i : Nat) : Nat := [s.a, s.b, s.c, s.d].getD i 0
def S4.ok (s : S4) : Prop := s.a < 4294967296 ∧ s.b < 4294967296 ∧ s.c < 4294967296 ∧ s.d < 4294967296
theorem mdOne_ok {M : Nat → Nat} {i : Nat} {s : S4} (h : s.ok) : (mdOne M i s).ok := ⟨h.2.2.2, Nat.mod_lt _ (by omega), h.2.1, h.2.2.1⟩
theorem mdRun_ok {M : Nat → Nat} {s : S4} (h : s.ok) : ∀ k, (mdRun M s k).ok
  | 0 => h
  | k + 1 => mdOne_ok (mdRun_ok h k)
theorem mdSt_ok (F : Nat → Nat) : ∀ t, (mdSt F t).ok
  | 0 => by unfold mdSt S4.ok; decide
  | t + 1 => ⟨Nat.mod_lt _ (by omega), Nat.mod_lt _ (by omega), Nat.mod_lt _ (by omega), Nat.mod_lt _ (by omega)⟩
/-- the digest. -/
def md5 (f : Nat → Nat) (n : Nat) : List Nat := ob true (mdSt (fun i => (pd true f n).getD i 0) ((n + 1 + zz n + 8) / 64)).at 4

theorem cells_ws {w : World} {l : List Nat} (hl : ∀ x ∈ l, x < 4294967296) : Ws (w.alloc (.cells (l.map fun (x : Nat) => Value.int .u32 (x : Int)).toArray 94)) w.heap.size 0 l.length (fun i => l.getD i 0) := by
  refine ⟨by simp, fun i hi => ?_, fun i hi => ?_⟩
  · show l.getD i 0 < 4294967296
    rw [List.getD_eq_getElem?_getD, List.getElem?_eq_getElem hi]
    exact hl _ (List.getElem_mem hi)
  · rw [Nat.zero_add]
    exact (World.cell?_alloc_mark w _ _ (0, 0) i).trans (by simp [List.getD_eq_getElem?_getD, hi])

/-- a slice of the call's own as bytes in memory. -/
theorem Own.bs {w : World} {base : Nat} {v : Value} {l : List Nat} (h : Own w base v l) (hl : 0 < l.length) (h8 : ∀ x ∈ l, x < 256) : ∃ g cap, v = .slice (some ⟨g, 0, none⟩) l.length cap ∧ base ≤ g ∧ Bs w g 0 l.length (fun i => l.getD i 0) := by
  rcases h.2 with ⟨_, h0⟩ | ⟨g, cap, cur, hv, hb, hh, hc, _, hcs, ht⟩
  · omega
  · refine ⟨g, cap, hv, hb, (Array.getElem?_eq_some_iff.1 hh).1, fun i => ?_, fun i hi => ?_⟩
    · show l.getD i 0 < 256
      rw [List.getD_eq_getElem?_getD]
      cases e : l[i]? with
      | none => simp
      | some x => simpa using h8 x (List.mem_of_getElem? e)
    · have e : (cl l)[i]? = some (.int .u8 ((l.getD i 0 : Nat) : Int)) := by simp [cl, List.getD_eq_getElem?_getD, hi]
      rw [← ht, Nat.mul_one, List.getElem?_take, if_pos hi] at e
      simp only [World.cell?, hh, Nat.zero_add]
      simpa using e
end Go.Proofs.YtmehknhajoemgaaDoor.Hs
namespace Go.Proofs.YtmehknhajoemgaaDoor.Hs
open Go.RowKit
set_option linter.unusedVariables false
set_option linter.unusedSimpArgs false

theorem brefl (w : World) : Below w.heap.size w w := Below.refl _ _
theorem balloc {a b : World} (h : Below a.heap.size a b) (o : Obj) : Below a.heap.size a (b.alloc o) := h.alloc h.size o
theorem bstep {a b c : World} (h : Below a.heap.size a b) (k : Below b.heap.size b c) : Below a.heap.size a c := h.trans (k.mono h.size)
theorem bdrew {a b : World} (h : Below a.heap.size a b) (n : Nat) : Below a.heap.size a (b.drewN n) := h.trans ⟨rfl, rfl, rfl, Nat.le_refl _, fun _ _ => rfl⟩
theorem Own.le {w : World} {base base' : Nat} {v : Value} {l : List Nat} (h : Own w base v l) (hb : base' ≤ base) : Own w base' v l :=
  ⟨h.1, h.2.elim Or.inl (fun ⟨g, cap, cur, hv, hg, r⟩ => Or.inr ⟨g, cap, cur, hv, Nat.le_trans hb hg, r⟩)⟩
theorem pd_byte {low : Bool} {f : Nat → Nat} {n : Nat} (hf : ∀ i, f i < 256) : ∀ x ∈ pd low f n, x < 256 := by
  intro x hx
  simp only [pd, bl, lb, List.mem_append, List.mem_map, List.mem_range, List.mem_cons, List.mem_replicate, List.not_mem_nil, or_false] at hx
  rcases hx with ((⟨i, _, rfl⟩ | rfl) | ⟨_, rfl⟩) | ⟨i, _, rfl⟩
  · exact hf i
  · omega
  · omega
  · unfold lbAt; omega
def Ts (w : World) (b : Nat) : Prop := b < w.heap.size ∧ ∀ i, i < 16 → w.cell? ⟨b, i, none⟩ = some (.int .i64 ((mdTs.getD i 0 : Nat) : Int))
theorem Ts.below {w w' : World} {b : Nat} (h : Ts w b) (k : Below w.heap.size w w') : Ts w' b :=
  ⟨Nat.lt_of_lt_of_le h.1 k.size, fun i hi => (k.cell (p := ⟨b, i, none⟩) h.1).trans (h.2 i hi)⟩
def Sw (w : World) (b : Nat) (s : S4) : Prop :=
  b < w.heap.size ∧ w.cell? ⟨b, 0, none⟩ = some (.int .u32 s.a) ∧ w.cell? ⟨b, 1, none⟩ = some (.int .u32 s.b) ∧ w.cell? ⟨b, 2, none⟩ = some (.int .u32 s.c) ∧ w.cell? ⟨b, 3, none⟩ = some (.int .u32 s.d) ∧ w.frozen? ⟨b, 0, none⟩ = false ∧ w.frozen? ⟨b, 1, none⟩ = false ∧ w.frozen? ⟨b, 2, none⟩ = false ∧ w.frozen? ⟨b, 3, none⟩ = false
theorem Bs.belowB {B : Nat} {w w' : World} {b off n : Nat} {f : Nat → Nat} (h : Bs w b off n f) (hb : b < B) (k : Below B w w') : Bs w' b off n f :=
  ⟨Nat.lt_of_lt_of_le h.1 k.size, h.2.1, fun i hi => (k.cell (p := ⟨b, off + i, none⟩) hb).trans (h.2.2 i hi)⟩
theorem Ws.belowB {B : Nat} {w w' : World} {b off n : Nat} {f : Nat → Nat} (h : Ws w b off n f) (hb : b < B) (k : Below B w w') : Ws w' b off n f :=
  ⟨Nat.lt_of_lt_of_le h.1 k.size, h.2.1, fun i hi => (k.cell (p := ⟨b, off + i, none⟩) hb).trans (h.2.2 i hi)⟩
theorem Ts.belowB {B : Nat} {w w' : World} {b : Nat} (h : Ts w b) (hb : b < B) (k : Below B w w') : Ts w' b :=
  ⟨Nat.lt_of_lt_of_le h.1 k.size, fun i hi => (k.cell (p := ⟨b, i, none⟩) hb).trans (h.2 i hi)⟩
theorem Sw.below {w w' : World} {b : Nat} {s : S4} (h : Sw w b s) (k : Below w.heap.size w w') : Sw w' b s := by
  obtain ⟨h0, h1, h2, h3, h4, h5, h6, h7, h8⟩ := h
  exact ⟨Nat.lt_of_lt_of_le h0 k.size, (k.cell (p := ⟨b, 0, none⟩) h0).trans h1, (k.cell (p := ⟨b, 1, none⟩) h0).trans h2, (k.cell (p := ⟨b, 2, none⟩) h0).trans h3, (k.cell (p := ⟨b, 3, none⟩) h0).trans h4, (k.frozen (p := ⟨b, 0, none⟩) h0).trans h5, (k.frozen (p := ⟨b, 1, none⟩) h0).trans h6, (k.frozen (p := ⟨b, 2, none⟩) h0).trans h7, (k.frozen (p := ⟨b, 3, none⟩) h0).trans h8⟩
theorem Sw.set4 {w : World} {b : Nat} {s : S4} (h : Sw w b s) (r : S4) : Sw ((((w.setCell ⟨b, 0, none⟩ (.int .u32 r.a)).setCell ⟨b, 1, none⟩ (.int .u32 r.b)).setCell ⟨b, 2, none⟩ (.int .u32 r.c)).setCell ⟨b, 3, none⟩ (.int .u32 r.d)) b r := by
  obtain ⟨h0, h1, h2, h3, h4, h5, h6, h7, h8⟩ := h
  refine ⟨by simpa [World.setCell] using h0, ?_, ?_, ?_, ?_, by simpa [go_sem] using h5, by simpa [go_sem] using h6, by simpa [go_sem] using h7, by simpa [go_sem] using h8⟩ <;> simp [go_sem, h1, h2, h3, h4]
theorem T16 (w : World) (o : Obj) : Ts ((w.alloc (.cells #[.int .i64 7, .int .i64 12, .int .i64 17, .int .i64 22, .int .i64 5, .int .i64 9, .int .i64 14, .int .i64 20, .int .i64 4, .int .i64 11, .int .i64 16, .int .i64 23, .int .i64 6, .int .i64 10, .int .i64 15, .int .i64 21] 3)).alloc o) w.heap.size := by
  have h : Ts (w.alloc (.cells #[.int .i64 7, .int .i64 12, .int .i64 17, .int .i64 22, .int .i64 5, .int .i64 9, .int .i64 14, .int .i64 20, .int .i64 4, .int .i64 11, .int .i64 16, .int .i64 23, .int .i64 6, .int .i64 10, .int .i64 15, .int .i64 21] 3)) w.heap.size := by
    refine ⟨by simp, fun i hi => ?_⟩
    rw [World.cell?_alloc_mark]
    match i, hi with
    | 0, _ => rfl
    | 1, _ => rfl
    | 2, _ => rfl
    | 3, _ => rfl
    | 4, _ => rfl
    | 5, _ => rfl
    | 6, _ => rfl
    | 7, _ => rfl
    | 8, _ => rfl
    | 9, _ => rfl
    | 10, _ => rfl
    | 11, _ => rfl
    | 12, _ => rfl
    | 13, _ => rfl
    | 14, _ => rfl
    | 15, _ => rfl
    | _ + 16, h => exact absurd h (by omega)
  exact h.below (balloc (brefl _) o)
theorem S16 (w : World) (F : Nat → Nat) : Sw (w.alloc (.cells #[.int .u32 1732584193, .int .u32 4023233417, .int .u32 2562383102, .int .u32 271733878] 94)) w.heap.size (mdSt F 0) :=
  ⟨by simp, by simp [go_sem, mdSt], by simp [go_sem, mdSt], by simp [go_sem, mdSt], by simp [go_sem, mdSt], by simp [go_sem], by simp [go_sem], by simp [go_sem], by simp [go_sem]⟩
theorem S16' (w : World) (o : Obj) (F : Nat → Nat) : Sw ((w.alloc o).alloc (.cells #[.int .u32 1732584193, .int .u32 4023233417, .int .u32 2562383102, .int .u32 271733878] 94)) (w.heap.size + 1) (mdSt F 0) := by
  have h := S16 (w.alloc o) F
  rwa [show (w.alloc o).heap.size = w.heap.size + 1 from by simp] at h

end Go.Proofs.YtmehknhajoemgaaDoor.Hs
namespace Go.Proofs.YtmehknhajoemgaaDoor.Hs
open Go.RowKit
set_option linter.unusedVariables false
set_option linter.unusedSimpArgs false

theorem ha_some {w : World} {b off n cap : Nat} {f : Nat → Nat} (B : Bs w b off n f) (hn : n ≤ 140737488351296) (ty : TypeId) :
    ∃ v' w', (Builtin.append_ #[46, 46] ty #[.slice none 0 0, .slice (some ⟨b, off, none⟩) n cap]).run Tryd.prog w = .ok v' w' ∧ Own w' w.heap.size v' (bl f n) ∧ Below w.heap.size w w' ∧ w.heap.size ≤ w'.heap.size := by
  obtain ⟨v', w', h1, h2, h3, h4⟩ := appB (Own.nil w w.heap.size) B cap (Nat.le_refl _) (by simp; omega) ty
  exact ⟨v', w', h1, by simpa using h2, h3, h4⟩
theorem ha_nil (w : World) (f : Nat → Nat) (ty : TypeId) :
    ∃ v' w', (Builtin.append_ #[46, 46] ty #[.slice none 0 0, .slice none 0 0]).run Tryd.prog w = .ok v' w' ∧ Own w' w.heap.size v' (bl f 0) ∧ Below w.heap.size w w' ∧ w.heap.size ≤ w'.heap.size := by
  obtain ⟨i, hi, hz, hs, hby⟩ := info_parts info_u8
  refine ⟨.slice none 0 0, w, ?_, Own.nil _ _, Below.refl _ _, Nat.le_refl _⟩
  exact run_append_nothing (P := Tryd.prog) w 46 46 ty 5 i Tryd.underlying46 hi none 0 0 (Nat.le_refl _) _ (Src.ofNil w Tryd.underlying46 0)
/-- bytes as a string. -/
def bs8 (l : List Nat) : ByteArray := ⟨(l.map UInt8.ofNat).toArray⟩
theorem conv_bs {w : World} {b off n : Nat} {f : Nat → Nat} (B : Bs w b off n f) (cap : Nat) :
    (convert 46 9 (.slice (some ⟨b, off, none⟩) n cap)).run Tryd.prog w = .ok (.string (bs8 (bl f n))) w := by
  have h := run_convert_bytes_back (P := Tryd.prog) w 46 9 5 ⟨b, off, none⟩ cap ((bl f n).map UInt8.ofNat) Tryd.underlying46 Tryd.underlying5 Tryd.underlying9 (by
    intro j hj
    have hj' : j < n := by simpa [bl_len] using hj
    have e := B.2.2 j hj'
    have g := B.2.1 j
    have x : ((UInt8.ofNat (f j)).toNat : Int) = (f j : Int) := by rw [UInt8.toNat_ofNat']; omega
    have y : ((bl f n).map UInt8.ofNat)[j] = UInt8.ofNat (f j) := by simp [bl]
    rw [y, x]
    cases j <;> simpa [Addr.add] using e)
  rw [List.length_map, bl_len] at h
  exact h
theorem bs8_inj {l k : List Nat} (hl : ∀ x ∈ l, x < 256) (hk : ∀ x ∈ k, x < 256) (h : bs8 l = bs8 k) : l = k := by
  have h2 : l.map UInt8.ofNat = k.map UInt8.ofNat := by
    have := congrArg (fun b : ByteArray => b.data.toList) h
    simpa [bs8] using this
  have h3 := congrArg (List.map UInt8.toNat) h2
  simp only [List.map_map] at h3
  have e : ∀ l : List Nat, (∀ x ∈ l, x < 256) → l.map (UInt8.toNat ∘ UInt8.ofNat) = l := fun l hl => by
    conv => rhs; rw [← List.map_id l]
    apply List.map_congr_left
    intro x hx
    have := hl x hx
    simp only [Function.comp, id]
    rw [UInt8.toNat_ofNat']
    omega
  rwa [e l hl, e k hk] at h3

end Go.Proofs.YtmehknhajoemgaaDoor.Hs

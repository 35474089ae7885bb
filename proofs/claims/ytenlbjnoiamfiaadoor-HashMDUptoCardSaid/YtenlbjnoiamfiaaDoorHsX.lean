/-
  The contract of sundiallaw04.awake: both digests of "abc".
  Conditions: the tables read as the program's text lays them.
-/
import Derived.Test.YtenlbjnoiamfiaaDoorHsW
import Derived.Lib.SlBytesConst
namespace Go.Proofs.YtenlbjnoiamfiaaDoor.Hs
open Go.RowKit
set_option linter.unusedVariables false
set_option linter.unusedSimpArgs false

theorem md_str : bs8 (hxL (fun i => (md5 abc 3).getD i 0) 16) = ⟨#[57, 48, 48, 49, 53, 48, 57, 56, 51, 99, 100, 50, 52, 102, 98, 48, 100, 54, 57, 54, 51, 102, 55, 100, 50, 56, 101, 49, 55, 102, 55, 50]⟩ := by rw [md5_abc]; rfl
theorem sha_str : bs8 (hxL (fun i => (sha256 abc 3).getD i 0) 32) = ⟨#[98, 97, 55, 56, 49, 54, 98, 102, 56, 102, 48, 49, 99, 102, 101, 97, 52, 49, 52, 49, 52, 48, 100, 101, 53, 100, 97, 101, 50, 50, 50, 51, 98, 48, 48, 51, 54, 49, 97, 51, 57, 54, 49, 55, 55, 97, 57, 99, 98, 52, 49, 48, 102, 102, 54, 49, 102, 50, 48, 48, 49, 53, 97, 100]⟩ := by rw [sha_abc]; rfl
theorem md5_len (f : Nat → Nat) (n : Nat) : (md5 f n).length = 16 := by rw [md5, ob_len]
theorem sha_len (f : Nat → Nat) (n : Nat) : (sha256 f n).length = 32 := by rw [sha256, ob_len]
theorem ob_byte (low : Bool) (g : Nat → Nat) : ∀ n, ∀ x ∈ ob low g n, x < 256
  | 0, x, h => by simp [ob] at h
  | n + 1, x, h => by
    simp only [ob, wb, List.mem_append, List.mem_map, List.mem_range] at h
    rcases h with h | ⟨j, _, rfl⟩
    · exact ob_byte low g n x h
    · unfold wbAt; omega
theorem abc_bs (w : World) (ty : TypeId) (fr : Nat × Nat) : Bs (w.alloc (.cells #[.int .u8 97, .int .u8 98, .int .u8 99] ty fr)) w.heap.size 0 3 abc := by
  refine ⟨by simp, abc_lt, fun i hi => ?_⟩
  rw [Nat.zero_add, World.cell?_alloc_mark w _ _ fr i]
  match i, hi with
  | 0, _ => rfl
  | 1, _ => rfl
  | 2, _ => rfl
/-- Hex of a digest. -/
theorem HexOwn_c {w : World} {base : Nat} {v : Value} {l : List Nat} (h : Own w base v l) (hl : 0 < l.length) (h8 : ∀ x ∈ l, x < 256) (hn : l.length ≤ 140737488351232) :
    Calls Tryd.prog 11 #[v] w fun e w' => e = .returned (.string (bs8 (hxL (fun i => l.getD i 0) l.length))) ∧ Below w.heap.size w w' := by
  obtain ⟨g, cap, rfl, hb, B, h1, h2⟩ := h.bsC hl h8
  exact Hex_c _ _ _ _ _ hn B.2.1 h1 h2 (Lib.hid fun _ => ⟨g, 0, rfl, B⟩)

set_option maxRecDepth 100000 in
set_option maxHeartbeats 4000000 in
theorem awake_c (w : World) (G : Gl w) :
    Calls Tryd.prog 7 #[] w fun e w' => e = .returned (.bool true) ∧ Below w.heap.size w w' := by
  have HG := Lib.hid G
  clear G
  have kc := fun (w : World) (C : Array Value) (n c : Nat) => Lib.run_convert_bytes_const (P := Tryd.prog) w 22 5 C n c Tryd.underlying22 Tryd.underlying5
  go_enter Tryd.func7, Tryd.ntmps7
  go_wp2_with fail
  have B0 := Lib.hid (balloc (brefl w) (.cells #[.int .u8 97, .int .u8 98, .int .u8 99] 5 (3, 4)))
  refine (MD5_c w.heap.size 0 3 3 abc _ (HG.out.below B0.out) (by omega) (by omega) (by omega) (abc_bs w _ _)).mono ?_
  rintro e w1 ⟨⟨v, rfl, own⟩, hb⟩
  have O1 := Lib.hid own
  have B1 := Lib.hid (bstep B0.out hb)
  clear own hb B0
  go_wp2_with fail
  have H1 := HexOwn_c O1.out (by rw [md5_len]; omega) (ob_byte _ _ _) (by rw [md5_len]; omega)
  rw [md5_len, md_str] at H1
  refine H1.mono ?_
  rintro e w2 ⟨rfl, hb⟩
  have B2 := Lib.hid (bstep B1.out hb)
  clear hb O1 B1 H1
  go_wp2_with fail
  have B3 := Lib.hid (balloc (brefl w2) (.cells #[.int .u8 97, .int .u8 98, .int .u8 99] 5 (3, 4)))
  refine (SHA256_c w2.heap.size 0 3 3 abc _ ((HG.out.below B2.out).below B3.out) (by omega) (by omega) (by omega) (abc_bs w2 _ _)).mono ?_
  rintro e w3 ⟨⟨v3, rfl, own⟩, hb⟩
  have O4 := Lib.hid own
  have B4 := Lib.hid (bstep B2.out (bstep B3.out hb))
  clear own hb B3
  go_wp2_with fail
  have H1 := HexOwn_c O4.out (by rw [sha_len]; omega) (ob_byte _ _ _) (by rw [sha_len]; omega)
  rw [sha_len, sha_str] at H1
  refine H1.mono ?_
  rintro e w4 ⟨rfl, hb⟩
  have B5 := Lib.hid (bstep B4.out hb)
  clear hb O4 B4 H1
  go_wp2_with fail
  go_ret
  exact ⟨rfl, B5.out⟩
end Go.Proofs.YtenlbjnoiamfiaaDoor.Hs

/-
  The contract of sundiallaw04.awake: both digests of "abc".
  Conditions: the tables read as the program's text lays them.
-/
import Derived.Test.YtkjolaoajbdomaaGreatDoorHf
import Derived.Lib.SlBytesConst
namespace Go.Proofs.YtkjolaoajbdomaaGreatDoor.Hs
open Go.RowKit
set_option linter.unusedVariables false
set_option linter.unusedSimpArgs false

theorem md_str : bs8 (hxL (fun i => (md5 abc 3).getD i 0) 16) = ⟨#[57, 48, 48, 49, 53, 48, 57, 56, 51, 99, 100, 50, 52, 102, 98, 48, 100, 54, 57, 54, 51, 102, 55, 100, 50, 56, 101, 49, 55, 102, 55, 50]⟩ := by rw [md5_abc]; rfl
theorem sha_str : bs8 (hxL (fun i => (sha256 abc 3).getD i 0) 32) = ⟨#[98, 97, 55, 56, 49, 54, 98, 102, 56, 102, 48, 49, 99, 102, 101, 97, 52, 49, 52, 49, 52, 48, 100, 101, 53, 100, 97, 101, 50, 50, 50, 51, 98, 48, 48, 51, 54, 49, 97, 51, 57, 54, 49, 55, 55, 97, 57, 99, 98, 52, 49, 48, 102, 102, 54, 49, 102, 50, 48, 48, 49, 53, 97, 100]⟩ := by rw [sha_abc]; rfl
theorem md5_len (f : Nat → Nat) (n : Nat) : (md5 f n).length = 16 := by rw [md5, ob_len]
theorem sha_len (f : Nat → Nat) (n : Nat) : (sha256 f n).length = 32 := by rw [sha256, ob_len]
theorem ob_byte (low : Bool) (g : Nat → Nat) : ∀ n, ∀ x ∈ ob low g n, x < 256
  | 0, x, h => by simp [ob] at h
  | n + 1, x, h => by
    simp only [ob, wb, List.mem_append, List.mem_map, List.mem_range] at h
    rcases h with h | ⟨j, _, rfl⟩
    · exact ob_byte low g n x h
    · unfold wbAt; omega
theorem abc_bs (w : World) (ty : TypeId) (fr : Nat × Nat) : Bs (w.alloc (.cells #[.int .u8 97, .int .u8 98, .int .u8 99] ty fr)) w.heap.size 0 3 abc := by
  refine ⟨by simp, abc_lt, fun i hi => ?_⟩
  rw [Nat.zero_add, World.cell?_alloc_mark w _ _ fr i]
  match i, hi with
  | 0, _ => rfl
  | 1, _ => rfl
  | 2, _ => rfl
/-- Hex of a digest. -/
theorem HexOwn_c {w : World} {base : Nat} {v : Value} {l : List Nat} (h : Own w base v l) (hl : 0 < l.length) (h8 : ∀ x ∈ l, x < 256) (hn : l.length ≤ 140737488351296) :
    Calls Tryz.prog 56 #[v] w fun e w' => e = .returned (.string (bs8 (hxL (fun i => l.getD i 0) l.length))) ∧ Below w.heap.size w w' := by
  obtain ⟨g, cap, rfl, hb, B, h1, h2⟩ := h.bsC hl h8
  exact Hex_c _ _ _ _ _ hn B.2.1 h1 h2 (Lib.hid fun _ => ⟨g, 0, rfl, B⟩)

end Go.Proofs.YtkjolaoajbdomaaGreatDoor.Hs

/-
  A line of quoted texts, done: with a remark behind it. The four blanks.
-/
import Derived.Test.YthlmjfjkjjoimaaDoorWpU
namespace Go.Proofs.YthlmjfjkjjoimaaDoor.Wd
open Go.ChangeShapes Go.WideShapes Go.ChangeAt Go.RowKit Go.Joins By
set_option linter.unusedVariables false
set_option linter.unusedSimpArgs false

def rmk : ByteArray := ⟨#[32, 35, 32, 114, 101, 109, 97, 114, 107]⟩
def rmkC : List (ByteArray × Bool) := [(⟨#[32]⟩, false), (⟨#[35]⟩, false), (⟨#[32]⟩, false), (⟨#[114]⟩, false), (⟨#[101]⟩, false), (⟨#[109]⟩, false), (⟨#[97]⟩, false), (⟨#[114]⟩, false), (⟨#[107]⟩, false)]
theorem chars_rmk : chars rmk = rmkC := by kernel_rfl
theorem blank_a : chars ⟨#[32]⟩ = [(⟨#[32]⟩, false)] := by kernel_rfl
theorem blank_b : chars ⟨#[9]⟩ = [(⟨#[9]⟩, false)] := by kernel_rfl
theorem blank_c : chars ⟨#[194, 160]⟩ = [(⟨#[194, 160]⟩, false)] := by kernel_rfl
theorem blank_d : chars ⟨#[227, 128, 128, 32]⟩ = [(⟨#[227, 128, 128]⟩, false), (⟨#[32]⟩, false)] := by kernel_rfl
theorem bk_a : Bk ⟨#[32]⟩ := ⟨by rw [blank_a]; intro c hc; simp at hc; subst hc; exact ⟨rfl, by simp only [bl1, ByteArray.toList_eq]; decide⟩, by rw [blank_a]; decide⟩
theorem bk_b : Bk ⟨#[9]⟩ := ⟨by rw [blank_b]; intro c hc; simp at hc; subst hc; exact ⟨rfl, by simp only [bl1, ByteArray.toList_eq]; decide⟩, by rw [blank_b]; decide⟩
theorem bk_c : Bk ⟨#[194, 160]⟩ := ⟨by rw [blank_c]; intro c hc; simp at hc; subst hc; exact ⟨rfl, by simp only [bl1, ByteArray.toList_eq]; decide⟩, by rw [blank_c]; decide⟩
theorem bk_d : Bk ⟨#[227, 128, 128, 32]⟩ := ⟨by rw [blank_d]; intro c hc; simp at hc; rcases hc with rfl | rfl <;> exact ⟨rfl, by simp only [bl1, ByteArray.toList_eq]; decide⟩, by rw [blank_d]; decide⟩

theorem Ln.done {T : ByteArray} {ws : List W3} (h : Ln T ws) : spR (T ++ rmk) = .inr ws := by
  obtain ⟨ok, S, hr, h1, h2, h3⟩ := h
  have c1 : chars (T ++ rmk) = chars T ++ rmkC := by rw [chars_valid ok, chars_rmk]
  unfold spR
  rw [c1, run_app, hr]
  simp only
  have sh : S.shut = true := by
    simp only [CS.shut, Bool.and_eq_true, decide_eq_true_eq]
    omega
  obtain ⟨S', r1, w5, e1⟩ := run_sh sh (0 + (chars T).length)
  have sp : rmkC = [(spc, false), (hsh, false)] ++ [(⟨#[32]⟩, false), (⟨#[114]⟩, false), (⟨#[101]⟩, false), (⟨#[109]⟩, false), (⟨#[97]⟩, false), (⟨#[114]⟩, false), (⟨#[107]⟩, false)] := rfl
  rw [sp, run_app, r1]
  simp only
  rw [(run_rem5 _ _ S' w5).1 rfl]
  simp only
  have sh' : S'.shut = true := by
    simp only [CS.shut, Bool.and_eq_true, decide_eq_true_eq]
    omega
  rw [if_pos sh', CS.last, if_neg (by omega), e1, CS.last, if_neg (by omega), h1]
end Go.Proofs.YthlmjfjkjjoimaaDoor.Wd

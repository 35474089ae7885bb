/-
  Digests block by block: the whole blocks of the bytes, then what stands behind them with its padding; SHA-256 of bytes in numbers.
  Conditions: none.
-/
import Derived.Test.YtenlbjnoiamfiaaDoorHsR
namespace Go.Proofs.YtenlbjnoiamfiaaDoor.Hs
open Go.RowKit
set_option linter.unusedVariables false
set_option linter.unusedSimpArgs false

theorem wrd_congr (low : Bool) {F G : Nat → Nat} {a n : Nat} (h : ∀ i, i < n → F i = G i) (ha : a + 4 ≤ n) : wrd low F a = wrd low G a := by
  unfold wrd
  have h0 := h (a + 0) (by omega)
  have h1 := h (a + 1) (by omega)
  have h2 := h (a + 2) (by omega)
  have h3 := h (a + 3) (by omega)
  split <;> simp only [wl, wh, h0, h1, h2, h3]
theorem mdRun_congr {M N : Nat → Nat} (h : ∀ i, i < 16 → M i = N i) (s : S4) : ∀ k, mdRun M s k = mdRun N s k
  | 0 => rfl
  | k + 1 => by
    show mdOne M k (mdRun M s k) = mdOne N k (mdRun N s k)
    rw [mdRun_congr h s k]
    unfold mdOne mdf
    rw [h _ (mG_lt k)]
theorem mdGo_congr {F G : Nat → Nat} (s : S4) : ∀ t, (∀ i, i < 64 * t → F i = G i) → mdGo F s t = mdGo G s t
  | 0, _ => rfl
  | t + 1, h => by
    show mdAdd (mdGo F s t) (mdRun _ (mdGo F s t) 64) = mdAdd (mdGo G s t) (mdRun _ (mdGo G s t) 64)
    rw [mdGo_congr s t (fun i hi => h i (by omega)), mdRun_congr (fun i hi => wrd_congr true h (show 64 * t + 4 * i + 4 ≤ 64 * (t + 1) by omega))]
theorem mdGo_add (F : Nat → Nat) (s : S4) (a : Nat) : ∀ c, mdGo F s (a + c) = mdGo (fun i => F (64 * a + i)) (mdGo F s a) c
  | 0 => rfl
  | c + 1 => by
    show mdAdd (mdGo F s (a + c)) (mdRun (fun g => wrd true F (64 * (a + c) + 4 * g)) (mdGo F s (a + c)) 64) = mdAdd (mdGo _ _ c) (mdRun (fun g => wrd true (fun i => F (64 * a + i)) (64 * c + 4 * g)) (mdGo _ _ c) 64)
    rw [mdGo_add F s a c, show (fun g => wrd true F (64 * (a + c) + 4 * g)) = (fun g => wrd true (fun i => F (64 * a + i)) (64 * c + 4 * g)) from funext fun g => by rw [wrd_part, show 64 * (a + c) + 4 * g = 64 * a + (64 * c + 4 * g) from by omega]]
def md0 : S4 := ⟨1732584193, 4023233417, 2562383102, 271733878⟩
theorem mdSt_go (F : Nat → Nat) : ∀ t, mdSt F t = mdGo F md0 t
  | 0 => rfl
  | t + 1 => by
    show mdAdd (mdSt F t) _ = mdAdd (mdGo F md0 t) _
    rw [mdSt_go F t]
theorem shaX_congr {M N : Nat → Nat} (h : ∀ i, i < 16 → M i = N i) : ∀ t, shaX M t = shaX N t
  | 0 => by
    funext i
    show (if i < 16 then M i else 0) = if i < 16 then N i else 0
    split
    · exact h i (by assumption)
    · rfl
  | t + 1 => by
    show up (shaX M t) _ _ = up (shaX N t) _ _
    rw [shaX_congr h t]
theorem shaGo_congr {F G : Nat → Nat} (s : S8) : ∀ t, (∀ i, i < 64 * t → F i = G i) → shaGo F s t = shaGo G s t
  | 0, _ => rfl
  | t + 1, h => by
    show shaAdd (shaGo F s t) (shaRun _ (shaGo F s t) 64) = shaAdd (shaGo G s t) (shaRun _ (shaGo G s t) 64)
    rw [shaGo_congr s t (fun i hi => h i (by omega)), shaX_congr (fun i hi => wrd_congr false h (show 64 * t + 4 * i + 4 ≤ 64 * (t + 1) by omega))]
theorem shaGo_add (F : Nat → Nat) (s : S8) (a : Nat) : ∀ c, shaGo F s (a + c) = shaGo (fun i => F (64 * a + i)) (shaGo F s a) c
  | 0 => rfl
  | c + 1 => by
    show shaAdd (shaGo F s (a + c)) (shaRun (shaX (fun g => wrd false F (64 * (a + c) + 4 * g)) 48) (shaGo F s (a + c)) 64) = shaAdd (shaGo _ _ c) (shaRun (shaX (fun g => wrd false (fun i => F (64 * a + i)) (64 * c + 4 * g)) 48) (shaGo _ _ c) 64)
    rw [shaGo_add F s a c, show (fun g => wrd false F (64 * (a + c) + 4 * g)) = (fun g => wrd false (fun i => F (64 * a + i)) (64 * c + 4 * g)) from funext fun g => by rw [wrd_part, show 64 * (a + c) + 4 * g = 64 * a + (64 * c + 4 * g) from by omega]]
def sha0 : S8 := ⟨1779033703, 3144134277, 1013904242, 2773480762, 1359893119, 2600822924, 528734635, 1541459225⟩
theorem md0_ok : md0.ok := by unfold md0 S4.ok; decide
theorem sha0_ok : sha0.ok := by unfold sha0 S8.ok; decide
def S8.at (s : S8) (i : Nat) : Nat := [s.a, s.b, s.c, s.d, s.e, s.f, s.g, s.h].getD i 0
/-- the digest. -/
def sha256 (f : Nat → Nat) (n : Nat) : List Nat := ob false (shaGo (fun i => (pd false f n).getD i 0) sha0 ((n + 1 + zz n + 8) / 64)).at 8
theorem bl_add (f : Nat → Nat) (a c : Nat) : bl f (a + c) = bl f a ++ bl (fun i => f (a + i)) c := by
  unfold bl
  rw [List.range_add, List.map_append, List.map_map]
  rfl
theorem pd_split (low : Bool) (f : Nat → Nat) (n : Nat) : pd low f n = bl f (n / 64 * 64) ++ (ends f n ++ lb low n 8) := by
  have e : n / 64 * 64 + n % 64 = n := by omega
  unfold pd ends
  conv => lhs; rw [← e]
  rw [bl_add, e]
  simp only [List.append_assoc]
theorem bl_get {f : Nat → Nat} {n i : Nat} (h : i < n) (l : List Nat) : (bl f n ++ l).getD i 0 = f i := by
  rw [List.getD_eq_getElem?_getD, List.getElem?_append_left (by rw [bl_len]; exact h)]
  simp [bl, h]
theorem app_get (f : Nat → Nat) (n i : Nat) (l : List Nat) : (bl f n ++ l).getD (n + i) 0 = l.getD i 0 := by
  rw [List.getD_eq_getElem?_getD, List.getElem?_append_right (by rw [bl_len]; omega), bl_len, List.getD_eq_getElem?_getD]
  congr 2
  omega
/-- what is behind the whole blocks, padded whole. -/
def en (low : Bool) (f : Nat → Nat) (n : Nat) : List Nat := ends f n ++ lb low n 8
theorem en_len (low : Bool) (f : Nat → Nat) (n : Nat) : (en low f n).length = n % 64 + 1 + zz n + 8 := by rw [en, List.length_append, ends_len, lb_len]
theorem pd_len2 (n : Nat) : (n + 1 + zz n + 8) / 64 = n / 64 + (n % 64 + 1 + zz n + 8) / 64 := by
  have := zz_at n
  omega
theorem md5_split (f : Nat → Nat) (n : Nat) : md5 f n = ob true (mdGo (fun i => (en true f n).getD i 0) (mdGo f md0 (n / 64)) ((n % 64 + 1 + zz n + 8) / 64)).at 4 := by
  unfold md5
  rw [mdSt_go, pd_len2, mdGo_add, mdGo_congr (G := f) md0 (n / 64) (fun i hi => by rw [pd_split]; exact bl_get (by omega) _)]
  rw [show (fun i => (pd true f n).getD (64 * (n / 64) + i) 0) = (fun i => (en true f n).getD i 0) from funext fun i => by rw [pd_split, Nat.mul_comm 64 (n / 64)]; exact app_get _ _ _ _]
theorem sha_split (f : Nat → Nat) (n : Nat) : sha256 f n = ob false (shaGo (fun i => (en false f n).getD i 0) (shaGo f sha0 (n / 64)) ((n % 64 + 1 + zz n + 8) / 64)).at 8 := by
  unfold sha256
  rw [pd_len2, shaGo_add, shaGo_congr (G := f) sha0 (n / 64) (fun i hi => by rw [pd_split]; exact bl_get (by omega) _)]
  rw [show (fun i => (pd false f n).getD (64 * (n / 64) + i) 0) = (fun i => (en false f n).getD i 0) from funext fun i => by rw [pd_split, Nat.mul_comm 64 (n / 64)]; exact app_get _ _ _ _]
theorem ends_byte {f : Nat → Nat} {n : Nat} (hf : ∀ i, f i < 256) : ∀ x ∈ ends f n, x < 256 := by
  intro x hx
  simp only [ends, bl, List.mem_append, List.mem_map, List.mem_range, List.mem_cons, List.mem_replicate, List.not_mem_nil, or_false] at hx
  rcases hx with (⟨i, _, rfl⟩ | rfl) | ⟨_, rfl⟩
  · exact hf _
  · omega
  · omega
theorem en_byte {low : Bool} {f : Nat → Nat} {n : Nat} (hf : ∀ i, f i < 256) : ∀ x ∈ en low f n, x < 256 := by
  intro x hx
  simp only [en, lb, List.mem_append, List.mem_map, List.mem_range] at hx
  rcases hx with hx | ⟨i, _, rfl⟩
  · exact ends_byte hf x hx
  · unfold lbAt; omega
/-- a slice of the call's own, with its bounds. -/
theorem Own.bsC {w : World} {base : Nat} {v : Value} {l : List Nat} (h : Own w base v l) (hl : 0 < l.length) (h8 : ∀ x ∈ l, x < 256) : ∃ g cap, v = .slice (some ⟨g, 0, none⟩) l.length cap ∧ base ≤ g ∧ Bs w g 0 l.length (fun i => l.getD i 0) ∧ l.length ≤ cap ∧ cap ≤ 9223372036854775807 := by
  obtain ⟨g, cap, hv, hb, B⟩ := h.bs hl h8
  refine ⟨g, cap, hv, hb, B, ?_⟩
  rcases h.2 with ⟨_, h0⟩ | ⟨g', cap', cur, hv', _, _, hc, hm, _⟩
  · omega
  · rw [hv] at hv'
    simp only [Value.slice.injEq] at hv'
    obtain ⟨_, _, rfl⟩ := hv'
    unfold maxLen at hm
    exact ⟨hc, by omega⟩
end Go.Proofs.YtenlbjnoiamfiaaDoor.Hs

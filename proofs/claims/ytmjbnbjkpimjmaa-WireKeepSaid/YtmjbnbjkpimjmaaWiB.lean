/-
  A packet and its bytes: Decode of Encode, Encode of Decode, what is signed; in numbers.
  Conditions: none.
-/
import Derived.Test.YtmjbnbjkpimjmaaWiA
namespace Go.Proofs.Ytmjbnbjkpimjmaa.Wi
open By
set_option linter.unusedVariables false
set_option linter.unusedSimpArgs false

theorem sg_lt (c : Nat) (h : c < 256) : -128 ≤ sg c ∧ sg c ≤ 127 ∧ (sg c % 256).toNat = c := by
  unfold sg
  split <;> omega
theorem sg_mod {x : Int} (h : -128 ≤ x) (h' : x ≤ 127) : sg (x % 256).toNat = x := by
  unfold sg
  split <;> omega
theorem enc_byte {p : Pk} (h : okH p = true) (hk : p.kind) : ∀ x ∈ enc p, x < 256 := by
  obtain ⟨a1, a2, a3, a4, a5, a6⟩ := okH_cut h
  have hfe : ∀ l : List Fd, (∀ f ∈ l, ∀ x ∈ f.2, x < 256) → ∀ x ∈ fes l, x < 256 := by
    intro l
    induction l with
    | nil => intro _ x hx; cases hx
    | cons f r ih =>
      intro hl x hx
      rw [fes, List.mem_append] at hx
      rcases hx with hx | hx
      · rw [fe, List.mem_append, List.mem_append] at hx
        rcases hx with hx | hx | hx
        · exact pt_byte _ _ x hx
        · exact pt_byte _ _ x hx
        · exact hl f (List.mem_cons_self ..) x hx
      · exact ih (fun f hf => hl f (List.mem_cons_of_mem _ hf)) x hx
  intro x hx
  rw [enc, List.mem_append, List.mem_append] at hx
  rcases hx with hx | hx | hx
  · simp only [he, List.mem_append] at hx
    rcases hx with hx | hx | hx | hx | hx | hx | hx | hx
    · simp only [hb, List.mem_cons, List.not_mem_nil, or_false] at hx
      omega
    all_goals exact pt_byte _ _ x hx
  · exact hfe _ hk.2.2.2.2.2.2.2.2.2 x hx
  · unfold te at hx
    split at hx
    · cases hx
    · rw [List.mem_append] at hx
      rcases hx with hx | hx
      · exact pt_byte _ _ x hx
      · exact hk.2.2.2.2.2.2.2.2.1 x hx
/-- a header comes out of its bytes. -/
theorem hd_he {p : Pk} (h : okH p = true) (hk : p.kind) {f : Nat → Nat} (s : Sp f 0 (he p)) : hd f = { p with fs := [], auth := 0, key := 0, dig := [] } := by
  obtain ⟨a1, a2, a3, a4, a5, a6⟩ := okH_cut h
  rw [he] at s
  have s0 := s.left
  have s1 := s.right
  have l0 : (hb p).length = 4 := rfl
  rw [l0] at s1
  have t1 := s1.left
  have s2 := s1.right
  have t2 := s2.left
  have s3 := s2.right
  have t3 := s3.left
  have s4 := s3.right
  have t4 := s4.left
  have s5 := s4.right
  have t5 := s5.left
  have s6 := s5.right
  have t6 := s6.left
  have t7 := s6.right
  simp only [pt_len, Nat.zero_add] at t1 t2 t3 t4 t5 t6 t7
  obtain ⟨k1, k2, k3, k4, k5, k6, k7, _⟩ := hk
  have g1 := gt_pt t1 (by omega)
  have g2 := gt_pt t2 (by omega)
  have g3 := gt_pt t3 (by omega)
  have g4 := gt_pt t4 (by omega)
  have g5 := gt_pt t5 (by omega)
  have g6 := gt_pt t6 (by omega)
  have g7 := gt_pt t7 (by omega)
  have b0 : f 0 = (p.leap * 64 + p.ver * 8 + p.mode).toNat := s0 0 (by rw [l0]; omega)
  have b1 : f 1 = p.strat.toNat := s0 1 (by rw [l0]; omega)
  have b2 : f 2 = (p.poll % 256).toNat := s0 2 (by rw [l0]; omega)
  have b3 : f 3 = (p.prec % 256).toNat := s0 3 (by rw [l0]; omega)
  unfold hd
  simp only [Nat.reduceAdd] at g1 g2 g3 g4 g5 g6 g7
  rw [g1, g2, g3, g4, g5, g6, g7, b0, b1, b2, b3, sg_mod a5.1 a5.2, sg_mod a6.1 a6.2]
  congr 1 <;> omega
theorem fin_te {p : Pk} {n : Nat} (h : tl p = some n) (hk : p.key < 4294967296) {f : Nat → Nat} {a : Nat} (s : Sp f a (te p)) : fin f (a + n) a = some (p.auth, p.key, p.dig) := by
  unfold fin
  rw [Nat.add_sub_cancel_left]
  unfold tl at h
  split at h
  · rename_i e
    split at h
    · rename_i d
      cases h
      rw [if_pos rfl, e, d.1, List.length_eq_zero_iff.1 d.2]
    · cases h
  · rename_i e
    unfold te at s
    rw [if_neg e] at s
    have g1 := gt_pt s.left (by omega)
    have s2 := s.right
    rw [pt_len] at s2
    have s3 := s2.bl
    split at h
    · rename_i e1
      split at h
      · rename_i d
        cases h
        rw [if_neg (by omega), if_pos ⟨rfl, by rw [g1]; exact d.1⟩, e1, d.1, List.length_eq_zero_iff.1 d.2]
      · cases h
    · split at h
      · rename_i e2
        split at h
        · rename_i d
          cases h
          rw [if_neg (by omega), if_neg (by omega), if_pos (by omega), g1, e2, show a + (4 + p.dig.length) - (a + 4) = p.dig.length by omega, s3]
        · cases h
      · cases h
/-- Decode of Encode. -/
theorem dec_enc {p : Pk} (h : rt p = true) (hk : p.kind) : ∃ n, tl p = some n ∧ (enc p).length = 48 + tot n p.fs ∧ 48 ≤ (enc p).length ∧ (enc p).length ≤ 1024 ∧ dec (fun i => (enc p).getD i 0) (enc p).length = ⟨0, p, (enc p).length - n⟩ := by
  obtain ⟨h1, n, h2, h3, h4, h5⟩ := rt_cut h
  have hl := enc_len h2
  have hl4 := tl_le h2
  refine ⟨n, h2, hl, by omega, by omega, ?_⟩
  have s := sp_self (enc p)
  generalize (fun i => (enc p).getD i 0) = f at s
  rw [enc] at s
  have s1 := s.left
  have s2 := s.right
  rw [he_len, Nat.zero_add] at s2
  have s3 := s2.left
  have s4 := s2.right
  rw [fes_len] at s4
  have e0 := hd_he h1 hk s1
  have e1 := cut_fes (f := f) (n := (enc p).length) (e := n) (by omega) p.fs 8 48 h3 h4 s3 hl (by omega)
  have e2 := fin_te h2 hk.2.2.2.2.2.2.2.1 s4
  have q1 := tot_add n p.fs
  rw [show 48 + tot 0 p.fs + n = (enc p).length by omega] at e2
  have m4 : ∀ l : List Fd, okF n l = true → tot n l % 4 = 0 := by
    intro l
    induction l with
    | nil => intro _; rw [tot]; omega
    | cons x r ih =>
      intro hx
      obtain ⟨k1, k2, k3, k4, k5⟩ := okF_cut hx
      have := ih k1
      rw [tot]
      omega
  have m := m4 _ h4
  unfold dec
  have v : btw (hd f).ver 1 4 = true := by
    rw [e0]
    obtain ⟨a1, a2, _⟩ := okH_cut h1
    exact btw_iff.2 a2
  rw [if_neg (by omega), if_neg (by omega), if_neg (by rw [v]; decide), e1]
  simp only
  rw [e2, e0]
  simp only
  rw [show (enc p).length - n = 48 + tot 0 p.fs by omega]
theorem he_hd {f : Nat → Nat} (hf : ∀ i, f i < 256) (p : Pk) (h : hd f = { p with fs := [], auth := 0, key := 0, dig := [] }) : he p = bl f 48 := by
  have e : he p = he (hd f) := by rw [h]; rfl
  rw [e]
  unfold he hd hb
  simp only
  rw [pt_gt hf, pt_gt hf, pt_gt hf, pt_gt hf, pt_gt hf, pt_gt hf, pt_gt hf]
  have b0 := hf 0
  have b1 := hf 1
  rw [(sg_lt _ (hf 2)).2.2, (sg_lt _ (hf 3)).2.2, Int.toNat_natCast]
  have e0 : (((f 0 / 64 : Nat) : Int) * 64 + ((f 0 / 8 % 8 : Nat) : Int) * 8 + ((f 0 % 8 : Nat) : Int)).toNat = f 0 := by omega
  rw [e0]
  rw [show (48 : Nat) = 4 + (4 + (4 + (4 + (8 + (8 + (8 + 8)))))) by omega, bl_add, bl_add, bl_add, bl_add, bl_add, bl_add, bl_add]
  have c : ∀ i j k : Nat, i + (j + k) = i + j + k := fun i j k => by omega
  simp only [c, Nat.reduceAdd]
  rfl
theorem dec_zero {f : Nat → Nat} {n : Nat} {q : Pk} {a : Nat} (h : dec f n = ⟨0, q, a⟩) : 48 ≤ n ∧ n % 4 = 0 ∧ n ≤ 1024 ∧ btw (hd f).ver 1 4 = true ∧ ∃ l y, cut f n 8 48 = some (l, a) ∧ fin f n a = some y ∧ q = { hd f with fs := l, auth := y.1, key := y.2.1, dig := y.2.2 } := by
  unfold dec at h
  split at h
  · cases h
  · rename_i h1
    split at h
    · cases h
    · rename_i h2
      split at h
      · cases h
      · rename_i h3
        split at h
        · cases h
        · rename_i x h4
          obtain ⟨l, b⟩ := x
          simp only at h
          split at h
          · cases h
          · rename_i y h5
            cases h
            exact ⟨by omega, by omega, by omega, by simpa using h3, l, y, h4, h5, rfl⟩
theorem dec_err (f : Nat → Nat) (n : Nat) : ((dec f n).e = 0) ∨ (((dec f n).e = 20 ∨ (dec f n).e = 21 ∨ (dec f n).e = 22 ∨ (dec f n).e = 23) ∧ dec f n = bad (dec f n).e) := by
  unfold dec
  split
  · exact .inr ⟨.inl rfl, rfl⟩
  · split
    · exact .inr ⟨.inr (.inl rfl), rfl⟩
    · split
      · exact .inr ⟨.inr (.inr (.inl rfl)), rfl⟩
      · split
        · exact .inr ⟨.inr (.inr (.inr rfl)), rfl⟩
        · split
          · exact .inr ⟨.inr (.inr (.inr rfl)), rfl⟩
          · exact .inl rfl
theorem fin_back {f : Nat → Nat} (hf : ∀ i, f i < 256) {n a : Nat} {y : Int × Nat × List Nat} (ha : a ≤ n) (h : fin f n a = some y) {p : Pk} (h1 : p.auth = y.1) (h2 : p.key = y.2.1) (h3 : p.dig = y.2.2) : tl p = some (n - a) ∧ te p = bl (fun i => f (a + i)) (n - a) ∧ p.key < 4294967296 ∧ (∀ x ∈ p.dig, x < 256) ∧ (p.auth = 0 ∨ p.auth = 1 ∨ p.auth = 2) ∧ n - a = (if p.auth = 0 then 0 else 4 + p.dig.length) := by
  unfold fin at h
  split at h
  · rename_i e
    cases h
    simp only at h1 h2 h3
    unfold tl te
    rw [h1, h2, h3, e]
    exact ⟨rfl, rfl, by decide, fun x hx => (by cases hx), .inl rfl, rfl⟩
  · rename_i e
    split at h
    · rename_i e1
      cases h
      simp only at h1 h2 h3
      unfold tl te
      rw [h1, h2, h3, e1.1]
      refine ⟨rfl, ?_, by decide, fun x hx => (by cases hx), .inr (.inl rfl), rfl⟩
      rw [if_neg (by decide), List.append_nil, ← pt_gt hf, e1.2]
    · rename_i e1
      split at h
      · rename_i e2
        cases h
        simp only at h1 h2 h3
        have hl : p.dig.length = n - (a + 4) := by rw [h3, bl_len]
        unfold tl te
        rw [h1, if_neg (by decide), if_neg (by decide), if_pos rfl, if_pos (by omega), if_neg (by decide), h2]
        refine ⟨by congr 1; omega, ?_, gt_lt hf a 4, ?_, .inr (.inr rfl), by rw [if_neg (by decide)]; omega⟩
        · rw [pt_gt hf, h3, show n - a = 4 + (n - (a + 4)) by omega, bl_add]
          congr 1
          exact bl_congr fun i _ => by rw [Nat.add_assoc]
        · intro x hx
          rw [h3] at hx
          simp only [By.bl, List.mem_map] at hx
          obtain ⟨i, _, rfl⟩ := hx
          exact hf _
      · cases h
/-- Encode of Decode. -/
theorem enc_dec {f : Nat → Nat} (hf : ∀ i, f i < 256) {n : Nat} {q : Pk} {a : Nat} (h : dec f n = ⟨0, q, a⟩) : rt q = true ∧ q.kind ∧ enc q = bl f n ∧ a ≤ n ∧ n - a = (if q.auth = 0 then 0 else 4 + q.dig.length) ∧ 48 ≤ n ∧ n ≤ 1024 := by
  obtain ⟨h1, h2, h3, h4, l, y, h5, h6, h7⟩ := dec_zero h
  obtain ⟨c1, c2, c3, c4, c5, c6, c7, c8⟩ := cut_back hf 8 48 l a h5 h1
  have hq : hd f = { q with fs := [], auth := 0, key := 0, dig := [] } := by rw [h7]; rfl
  obtain ⟨d1, d2, d3, d4, d5, d6⟩ := fin_back hf c3 h6 (p := q) (by rw [h7]) (by rw [h7]) (by rw [h7])
  have hfs : q.fs = l := by rw [h7]
  have b0 := hf 0
  have b1 := hf 1
  have s2 := sg_lt _ (hf 2)
  have s3 := sg_lt _ (hf 3)
  have v := btw_iff.1 h4
  have oh : okH q = true := by
    have e : okH q = okH (hd f) := by rw [h7]; rfl
    rw [e]
    simp only [okH, Bool.and_eq_true, btw_iff]
    refine ⟨⟨⟨⟨⟨?_, v⟩, ?_⟩, ?_⟩, ⟨s2.1, s2.2.1⟩⟩, ⟨s3.1, s3.2.1⟩⟩
    · show (0 : Int) ≤ ((f 0 / 64 : Nat) : Int) ∧ ((f 0 / 64 : Nat) : Int) ≤ 3; omega
    · show (0 : Int) ≤ ((f 0 % 8 : Nat) : Int) ∧ ((f 0 % 8 : Nat) : Int) ≤ 7; omega
    · show (0 : Int) ≤ ((f 1 : Nat) : Int) ∧ ((f 1 : Nat) : Int) ≤ 255; omega
  refine ⟨rt_join oh d1 (by rw [hfs]; exact c1) (by rw [hfs]; exact c5) (by rw [hfs, c6]; omega), ?_, ?_, c3, d6, h1, h3⟩
  · refine ⟨?_, ?_, ?_, ?_, ?_, ?_, ?_, d3, d4, by rw [hfs]; exact c8⟩
    all_goals rw [h7]
    · exact gt_lt hf 4 4
    · exact gt_lt hf 8 4
    · exact gt_lt hf 12 4
    · exact gt_lt hf 16 8
    · exact gt_lt hf 24 8
    · exact gt_lt hf 32 8
    · exact gt_lt hf 40 8
  · rw [enc, he_hd hf q hq, hfs, c7, d2, show n = 48 + ((a - 48) + (n - a)) by omega, bl_add, bl_add]
    have e : ∀ i, 48 + (a - 48 + i) = a + i := fun i => by omega
    simp only [e, Nat.add_sub_cancel_left]
/-- what is signed hangs on nothing that stands at the end. -/
theorem dec_turn {f g : Nat → Nat} {n : Nat} {q : Pk} {a : Nat} (h : dec f n = ⟨0, q, a⟩) (hm : q.auth = 2) (hg : ∀ i, i < a → f i = g i) : ∃ q', dec g n = ⟨0, q', a⟩ := by
  obtain ⟨h1, h2, h3, h4, l, y, h5, h6, h7⟩ := dec_zero h
  have key : ∀ (r a : Nat) (l : List Fd) (e : Nat), cut f n r a = some (l, e) → a ≤ e := by
    intro r
    induction r with
    | zero => intro a l e h; rw [cut] at h; split at h <;> cases h; exact Nat.le_refl _
    | succ r ih =>
      intro a l e h
      rw [cut] at h
      split at h
      · cases h; exact Nat.le_refl _
      · split at h
        · cases hc : cut f n r (a + gt f (a + 2) 2) with
          | none => rw [hc] at h; cases h
          | some x =>
            obtain ⟨l2, e2⟩ := x
            rw [hc] at h
            simp only [Option.map_some, Option.some.injEq, Prod.mk.injEq] at h
            obtain ⟨_, rfl⟩ := h
            have := ih _ _ _ hc
            omega
        · cases h
  have ha : 48 ≤ a := key _ _ _ _ h5
  have c := cut_congr 8 48 l a h5 h1 hg
  have gg : ∀ x w, x + w ≤ 48 → gt g x w = gt f x w := fun x w hx => gt_congr w fun i hi => (hg _ (by omega)).symm
  have e : hd g = hd f := by
    unfold hd
    rw [gg 4 4 (by omega), gg 8 4 (by omega), gg 12 4 (by omega), gg 16 8 (by omega), gg 24 8 (by omega), gg 32 8 (by omega), gg 40 8 (by omega), ← hg 0 (by omega), ← hg 1 (by omega), ← hg 2 (by omega), ← hg 3 (by omega)]
  have hy : y.1 = 2 := by rw [h7] at hm; exact hm
  have h8 : n - a = 20 ∨ n - a = 24 := by
    unfold fin at h6
    split at h6
    · cases h6; cases hy
    · split at h6
      · cases h6; cases hy
      · split at h6
        · assumption
        · cases h6
  unfold dec
  rw [if_neg (by omega), if_neg (by omega), e, if_neg (by rw [h4]; decide), c]
  simp only
  have h9 : fin g n a = some (2, gt g a 4, bl (fun i => g (a + 4 + i)) (n - (a + 4))) := by
    unfold fin
    rw [if_neg (by omega), if_neg (by omega), if_pos h8]
  rw [h9]
  exact ⟨_, rfl⟩
end Go.Proofs.Ytmjbnbjkpimjmaa.Wi

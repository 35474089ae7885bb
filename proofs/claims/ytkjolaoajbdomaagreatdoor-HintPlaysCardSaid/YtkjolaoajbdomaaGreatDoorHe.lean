/-
  The contract of hash.unfinished; the words of the count of bits.
  Conditions: no more than 2^47 - 4096 bytes.
  Digests block by block: the whole blocks of the bytes, then what stands behind them with its padding; SHA-256 of bytes in numbers.
  Conditions: none.
  The contracts of hash.MD5 and hash.SHA256.
  Conditions: the tables read as the program's text lays them; no more than 2^47 - 4096 bytes.
  The contract of hash.SHA256.
  Conditions: the tables read as the program's text lays them; no more than 2^47 - 4096 bytes.
-/
import Derived.Test.YtkjolaoajbdomaaGreatDoorHd
import Derived.Laws.MakeOwn
namespace Go.Proofs.YtkjolaoajbdomaaGreatDoor.Hs
open Go.RowKit
set_option linter.unusedVariables false
set_option linter.unusedSimpArgs false

theorem mk_own (w : World) (c : Nat) (hc : c ≤ 281474976710656) : ∃ w1, (Instr.makeSlice 28 (.int .i64 0) (.int .i64 (c : Int))).run Tryz.prog w = .ok (.slice (some ⟨w.heap.size, 0, none⟩) 0 c) w1 ∧ Own w1 w.heap.size (.slice (some ⟨w.heap.size, 0, none⟩) 0 c) [] ∧ Below w.heap.size w w1 := by
  obtain ⟨i, hi, hz, hs, hby⟩ := info_parts info_u8
  obtain ⟨w1, h1, h2, h3⟩ := run_make_own (P := Tryz.prog) w w.heap.size 28 5 i (.int .u8 0) 1 Tryz.underlying28 hi hz hs .i64 .i64 c (by rw [hby]; omega) (by unfold maxLen; omega) (Nat.le_refl _)
  exact ⟨w1, h1, h2, (Below.refl _ _).grown h3 (Nat.le_refl _) (fun k hk => by cases hk)⟩

set_option maxRecDepth 100000 in
set_option maxHeartbeats 2000000 in
theorem unfin_c (b off k r cap : Nat) (f : Nat → Nat) (w : World) (hk : k % 64 = 0) (hr : r < 64) (hn : k + r ≤ 140737488351296) (hc : k + r ≤ cap) (hcap : cap ≤ 9223372036854775807) (B : Bs w b off (k + r) f) :
    Calls Tryz.prog 75 #[.slice (some ⟨b, off, none⟩) (k + r) cap] w fun e w' => (∃ v, e = .returned v ∧ Own w' w.heap.size v (bl (fun i => f (k + i)) r ++ [128] ++ List.replicate (zz r) 0)) ∧ Below w.heap.size w w' := by
  obtain ⟨w1, r1, o1, b1⟩ := mk_own w 128 (by omega)
  rw [show ((128 : Nat) : Int) = 128 from rfl] at r1
  have B1 := B.below b1
  have s1 := b1.size
  obtain ⟨v2, w2, r2, o2, b2, s2⟩ : ∃ v2 w2, (Builtin.append_ #[28, 28] 28 #[.slice (some ⟨w.heap.size, 0, none⟩) 0 128, .slice (if cap = k then some ⟨b, off, none⟩ else some ⟨b, off + k, none⟩) r (cap - k)]).run Tryz.prog w1 = .ok v2 w2 ∧ Own w2 w.heap.size v2 ([] ++ bl (fun i => f (k + i)) r) ∧ Below w.heap.size w1 w2 ∧ w1.heap.size ≤ w2.heap.size := by
    by_cases ck : cap = k
    · rw [if_pos ck]
      obtain rfl : r = 0 := by omega
      exact appB o1 (b := b) (off := off) (n := 0) (f := fun i => f (k + i)) ⟨B1.1, fun i => B1.2.1 _, fun i hi => absurd hi (by omega)⟩ _ s1 (by simp) _
    · rw [if_neg ck]
      exact appB o1 (B1.part k r (Nat.le_refl _)) _ s1 (by simp; omega) _
  rw [List.nil_append] at o2
  obtain ⟨v3, w3, r3, o3, b3, s3⟩ := app1 o2 128 (Nat.le_trans s1 s2) (by rw [bl_len]; omega) 28
  have O3 := Lib.hid o3
  have B3 := Lib.hid ((b1.trans b2).trans b3)
  have S3 := Lib.hid (Nat.le_trans (Nat.le_trans s1 s2) s3)
  have Z := Lib.hid (zz_at r)
  have HB := Lib.hid B
  clear o1 b1 s1 B1 o2 b2 s2 o3 b3 s3 B
  rw [show ((128 : Nat) : Int) = 128 from rfl] at r3
  have HR2 := Lib.hid r2
  have HR3 := Lib.hid r3
  have HK := Lib.hid hk
  have n0 : (0 : Int) ≤ (k : Int) := by omega
  have n1 : (0 : Int) ≤ (r : Int) := by omega
  have n2 : (k : Int) + (r : Int) ≤ 140737488351296 := by omega
  have n3 : (k : Int) + (r : Int) ≤ (cap : Int) := by omega
  have n4 : (cap : Int) ≤ 9223372036854775807 := by omega
  have q0 : ((k : Int) + (r : Int)).tmod 64 = (r : Int) := by rw [Int.tmod_eq_emod_of_nonneg (by omega)]; omega
  clear r2 r3 hk
  go_enter Tryz.func75, Tryz.ntmps75
  go_wp2_with (first | (at_builtin; refine wpList_append_eq rfl _ _ 28 rfl _ _ v2 w2 rfl rfl HR2.out ?_) | (at_builtin; refine wpList_append_eq rfl _ _ 28 rfl _ _ v3 w3 rfl rfl HR3.out ?_))
  all_goals
    clear HR2 HR3 r1 q0
    go_loopw [3] (fun v wr => ∃ t : Nat, t ≤ zz r ∧ Own wr w.heap.size v (bl (fun i => f (k + i)) r ++ [128] ++ List.replicate t 0) ∧ Below w.heap.size w wr ∧ w.heap.size ≤ wr.heap.size) (fun v _ => r + 1 + zz r - sl v)
    case atStart => exact ⟨0, Nat.zero_le _, by simpa using O3.out, B3.out, S3.out⟩
    case round =>
      obtain ⟨t, ht, ho, hb, hs⟩ := hrel
      have le : (bl (fun i => f (k + i)) r ++ [128] ++ List.replicate t 0).length = r + 1 + t := plen _ r t
      have tz : t ≤ 63 := Nat.le_trans ht Z.out.2
      obtain ⟨v4, w4, r4, o4, b4, s4⟩ := app1 ho 0 hs (by rw [le]; omega) 28
      obtain ⟨g, cp, rfl, g1, g2, g3⟩ := ho.form (by rw [le]; omega)
      rw [le] at r4 g3 ho
      rw [le]
      have O4 : Hid (Own w4 w.heap.size v4 (bl (fun i => f (k + i)) r ++ [128] ++ List.replicate (t + 1) 0)) := Lib.hid (by rw [List.replicate_succ']; simpa using o4)
      have HO := Lib.hid ho
      have HBB := Lib.hid hb
      have B4 := Lib.hid (bstepB hb b4)
      have S4 := Lib.hid (Nat.le_trans hs s4)
      clear o4 b4 s4 ho hb hs
      have q : ((r : Int) + 1 + (t : Int)).tmod 64 = (((r + 1 + t) % 64 : Nat) : Int) := by rw [Int.tmod_eq_emod_of_nonneg (by omega)]; omega
      by_cases c : t < zz r
      · have tt : ((((r + 1 + t) % 64 : Nat) : Int) != 56) = true := by have := zz_ahead c; simp; omega
        rw [show ((0 : Nat) : Int) = 0 from rfl] at r4
        have LV : Hid (sl v4 = r + 1 + (t + 1)) := Lib.hid (by obtain ⟨g', c', e', _⟩ := O4.out.form (by rw [plen]; omega); rw [e', plen]; rfl)
        go_wp2_with (first | (at_builtin; refine wpList_append_eq rfl _ _ 28 rfl _ _ v4 w4 rfl rfl r4 ?_))
        go_roundw
        case rel => exact ⟨t + 1, by omega, O4.out, B4.out, S4.out⟩
        case measure => rw [LV.out]; simp [sl]; omega
      · obtain rfl : t = zz r := by omega
        have tt : ((r : Int) + 1 + (zz r : Int)).tmod 64 = 56 := by have := Z.out.1; rw [Int.tmod_eq_emod_of_nonneg (by omega)]; omega
        clear q
        clear r4 O4 B4 S4
        go_wp2_with fail
        go_ret
        exact ⟨⟨_, rfl, HO.out⟩, HBB.out⟩
/-- what stands behind the last whole block, and its padding. -/
def ends (f : Nat → Nat) (n : Nat) : List Nat := bl (fun i => f (n / 64 * 64 + i)) (n % 64) ++ [128] ++ List.replicate (zz n) 0
theorem ends_len (f : Nat → Nat) (n : Nat) : (ends f n).length = n % 64 + 1 + zz n := by rw [ends, plen]
theorem zz_mod (n : Nat) : zz (n % 64) = zz n := by unfold zz; omega
theorem unfinished_c (b off n cap : Nat) (f : Nat → Nat) (w : World) (hn : n ≤ 140737488351296) (hc : n ≤ cap) (hcap : cap ≤ 9223372036854775807) (B : Bs w b off n f) :
    Calls Tryz.prog 75 #[.slice (some ⟨b, off, none⟩) n cap] w fun e w' => (∃ v, e = .returned v ∧ Own w' w.heap.size v (ends f n)) ∧ Below w.heap.size w w' := by
  have e : n / 64 * 64 + n % 64 = n := by omega
  have h := unfin_c b off (n / 64 * 64) (n % 64) cap f w (by omega) (by omega) (by omega) (by omega) hcap (by rw [e]; exact B)
  rw [e, zz_mod] at h
  exact h
theorem bits_low (n : Nat) : wb true (8 * n % 4294967296) 4 ++ wb true (8 * n / 4294967296 % 4294967296) 4 = lb true n 8 := by
  simp only [wb_low, lb, List.range_succ, List.range_zero, List.map_append, List.map_cons, List.map_nil, lbAt, List.nil_append, List.cons_append]
  simp
  omega
theorem bits_high (n : Nat) : wb false (8 * n / 4294967296 % 4294967296) 4 ++ wb false (8 * n % 4294967296) 4 = lb false n 8 := by
  simp only [wb_high, lb, List.range_succ, List.range_zero, List.map_append, List.map_cons, List.map_nil, lbAt, List.nil_append, List.cons_append]
  simp
  omega
end Go.Proofs.YtkjolaoajbdomaaGreatDoor.Hs
namespace Go.Proofs.YtkjolaoajbdomaaGreatDoor.Hs
open Go.RowKit
set_option linter.unusedVariables false
set_option linter.unusedSimpArgs false

theorem wrd_congr (low : Bool) {F G : Nat → Nat} {a n : Nat} (h : ∀ i, i < n → F i = G i) (ha : a + 4 ≤ n) : wrd low F a = wrd low G a := by
  unfold wrd
  have h0 := h (a + 0) (by omega)
  have h1 := h (a + 1) (by omega)
  have h2 := h (a + 2) (by omega)
  have h3 := h (a + 3) (by omega)
  split <;> simp only [wl, wh, h0, h1, h2, h3]
theorem mdRun_congr {M N : Nat → Nat} (h : ∀ i, i < 16 → M i = N i) (s : S4) : ∀ k, mdRun M s k = mdRun N s k
  | 0 => rfl
  | k + 1 => by
    show mdOne M k (mdRun M s k) = mdOne N k (mdRun N s k)
    rw [mdRun_congr h s k]
    unfold mdOne mdf
    rw [h _ (mG_lt k)]
theorem mdGo_congr {F G : Nat → Nat} (s : S4) : ∀ t, (∀ i, i < 64 * t → F i = G i) → mdGo F s t = mdGo G s t
  | 0, _ => rfl
  | t + 1, h => by
    show mdAdd (mdGo F s t) (mdRun _ (mdGo F s t) 64) = mdAdd (mdGo G s t) (mdRun _ (mdGo G s t) 64)
    rw [mdGo_congr s t (fun i hi => h i (by omega)), mdRun_congr (fun i hi => wrd_congr true h (show 64 * t + 4 * i + 4 ≤ 64 * (t + 1) by omega))]
theorem mdGo_add (F : Nat → Nat) (s : S4) (a : Nat) : ∀ c, mdGo F s (a + c) = mdGo (fun i => F (64 * a + i)) (mdGo F s a) c
  | 0 => rfl
  | c + 1 => by
    show mdAdd (mdGo F s (a + c)) (mdRun (fun g => wrd true F (64 * (a + c) + 4 * g)) (mdGo F s (a + c)) 64) = mdAdd (mdGo _ _ c) (mdRun (fun g => wrd true (fun i => F (64 * a + i)) (64 * c + 4 * g)) (mdGo _ _ c) 64)
    rw [mdGo_add F s a c, show (fun g => wrd true F (64 * (a + c) + 4 * g)) = (fun g => wrd true (fun i => F (64 * a + i)) (64 * c + 4 * g)) from funext fun g => by rw [wrd_part, show 64 * (a + c) + 4 * g = 64 * a + (64 * c + 4 * g) from by omega]]
def md0 : S4 := ⟨1732584193, 4023233417, 2562383102, 271733878⟩
theorem mdSt_go (F : Nat → Nat) : ∀ t, mdSt F t = mdGo F md0 t
  | 0 => rfl
  | t + 1 => by
    show mdAdd (mdSt F t) _ = mdAdd (mdGo F md0 t) _
    rw [mdSt_go F t]
theorem shaX_congr {M N : Nat → Nat} (h : ∀ i, i < 16 → M i = N i) : ∀ t, shaX M t = shaX N t
  | 0 => by
    funext i
    show (if i < 16 then M i else 0) = if i < 16 then N i else 0
    split
    · exact h i (by assumption)
    · rfl
  | t + 1 => by
    show up (shaX M t) _ _ = up (shaX N t) _ _
    rw [shaX_congr h t]
theorem shaGo_congr {F G : Nat → Nat} (s : S8) : ∀ t, (∀ i, i < 64 * t → F i = G i) → shaGo F s t = shaGo G s t
  | 0, _ => rfl
  | t + 1, h => by
    show shaAdd (shaGo F s t) (shaRun _ (shaGo F s t) 64) = shaAdd (shaGo G s t) (shaRun _ (shaGo G s t) 64)
    rw [shaGo_congr s t (fun i hi => h i (by omega)), shaX_congr (fun i hi => wrd_congr false h (show 64 * t + 4 * i + 4 ≤ 64 * (t + 1) by omega))]
theorem shaGo_add (F : Nat → Nat) (s : S8) (a : Nat) : ∀ c, shaGo F s (a + c) = shaGo (fun i => F (64 * a + i)) (shaGo F s a) c
  | 0 => rfl
  | c + 1 => by
    show shaAdd (shaGo F s (a + c)) (shaRun (shaX (fun g => wrd false F (64 * (a + c) + 4 * g)) 48) (shaGo F s (a + c)) 64) = shaAdd (shaGo _ _ c) (shaRun (shaX (fun g => wrd false (fun i => F (64 * a + i)) (64 * c + 4 * g)) 48) (shaGo _ _ c) 64)
    rw [shaGo_add F s a c, show (fun g => wrd false F (64 * (a + c) + 4 * g)) = (fun g => wrd false (fun i => F (64 * a + i)) (64 * c + 4 * g)) from funext fun g => by rw [wrd_part, show 64 * (a + c) + 4 * g = 64 * a + (64 * c + 4 * g) from by omega]]
def sha0 : S8 := ⟨1779033703, 3144134277, 1013904242, 2773480762, 1359893119, 2600822924, 528734635, 1541459225⟩
theorem md0_ok : md0.ok := by unfold md0 S4.ok; decide
theorem sha0_ok : sha0.ok := by unfold sha0 S8.ok; decide
def S8.at (s : S8) (i : Nat) : Nat := [s.a, s.b, s.c, s.d, s.e, s.f, s.g, s.h].getD i 0
/-- the digest. -/
def sha256 (f : Nat → Nat) (n : Nat) : List Nat := ob false (shaGo (fun i => (pd false f n).getD i 0) sha0 ((n + 1 + zz n + 8) / 64)).at 8
theorem bl_add (f : Nat → Nat) (a c : Nat) : bl f (a + c) = bl f a ++ bl (fun i => f (a + i)) c := by
  unfold bl
  rw [List.range_add, List.map_append, List.map_map]
  rfl
theorem pd_split (low : Bool) (f : Nat → Nat) (n : Nat) : pd low f n = bl f (n / 64 * 64) ++ (ends f n ++ lb low n 8) := by
  have e : n / 64 * 64 + n % 64 = n := by omega
  unfold pd ends
  conv => lhs; rw [← e]
  rw [bl_add, e]
  simp only [List.append_assoc]
theorem bl_get {f : Nat → Nat} {n i : Nat} (h : i < n) (l : List Nat) : (bl f n ++ l).getD i 0 = f i := by
  rw [List.getD_eq_getElem?_getD, List.getElem?_append_left (by rw [bl_len]; exact h)]
  simp [bl, h]
theorem app_get (f : Nat → Nat) (n i : Nat) (l : List Nat) : (bl f n ++ l).getD (n + i) 0 = l.getD i 0 := by
  rw [List.getD_eq_getElem?_getD, List.getElem?_append_right (by rw [bl_len]; omega), bl_len, List.getD_eq_getElem?_getD]
  congr 2
  omega
/-- what is behind the whole blocks, padded whole. -/
def en (low : Bool) (f : Nat → Nat) (n : Nat) : List Nat := ends f n ++ lb low n 8
theorem en_len (low : Bool) (f : Nat → Nat) (n : Nat) : (en low f n).length = n % 64 + 1 + zz n + 8 := by rw [en, List.length_append, ends_len, lb_len]
theorem pd_len2 (n : Nat) : (n + 1 + zz n + 8) / 64 = n / 64 + (n % 64 + 1 + zz n + 8) / 64 := by
  have := zz_at n
  omega
theorem md5_split (f : Nat → Nat) (n : Nat) : md5 f n = ob true (mdGo (fun i => (en true f n).getD i 0) (mdGo f md0 (n / 64)) ((n % 64 + 1 + zz n + 8) / 64)).at 4 := by
  unfold md5
  rw [mdSt_go, pd_len2, mdGo_add, mdGo_congr (G := f) md0 (n / 64) (fun i hi => by rw [pd_split]; exact bl_get (by omega) _)]
  rw [show (fun i => (pd true f n).getD (64 * (n / 64) + i) 0) = (fun i => (en true f n).getD i 0) from funext fun i => by rw [pd_split, Nat.mul_comm 64 (n / 64)]; exact app_get _ _ _ _]
theorem sha_split (f : Nat → Nat) (n : Nat) : sha256 f n = ob false (shaGo (fun i => (en false f n).getD i 0) (shaGo f sha0 (n / 64)) ((n % 64 + 1 + zz n + 8) / 64)).at 8 := by
  unfold sha256
  rw [pd_len2, shaGo_add, shaGo_congr (G := f) sha0 (n / 64) (fun i hi => by rw [pd_split]; exact bl_get (by omega) _)]
  rw [show (fun i => (pd false f n).getD (64 * (n / 64) + i) 0) = (fun i => (en false f n).getD i 0) from funext fun i => by rw [pd_split, Nat.mul_comm 64 (n / 64)]; exact app_get _ _ _ _]
theorem ends_byte {f : Nat → Nat} {n : Nat} (hf : ∀ i, f i < 256) : ∀ x ∈ ends f n, x < 256 := by
  intro x hx
  simp only [ends, bl, List.mem_append, List.mem_map, List.mem_range, List.mem_cons, List.mem_replicate, List.not_mem_nil, or_false] at hx
  rcases hx with (⟨i, _, rfl⟩ | rfl) | ⟨_, rfl⟩
  · exact hf _
  · omega
  · omega
theorem en_byte {low : Bool} {f : Nat → Nat} {n : Nat} (hf : ∀ i, f i < 256) : ∀ x ∈ en low f n, x < 256 := by
  intro x hx
  simp only [en, lb, List.mem_append, List.mem_map, List.mem_range] at hx
  rcases hx with hx | ⟨i, _, rfl⟩
  · exact ends_byte hf x hx
  · unfold lbAt; omega
/-- a slice of the call's own, with its bounds. -/
theorem Own.bsC {w : World} {base : Nat} {v : Value} {l : List Nat} (h : Own w base v l) (hl : 0 < l.length) (h8 : ∀ x ∈ l, x < 256) : ∃ g cap, v = .slice (some ⟨g, 0, none⟩) l.length cap ∧ base ≤ g ∧ Bs w g 0 l.length (fun i => l.getD i 0) ∧ l.length ≤ cap ∧ cap ≤ 9223372036854775807 := by
  obtain ⟨g, cap, hv, hb, B⟩ := h.bs hl h8
  refine ⟨g, cap, hv, hb, B, ?_⟩
  rcases h.2 with ⟨_, h0⟩ | ⟨g', cap', cur, hv', _, _, hc, hm, _⟩
  · omega
  · rw [hv] at hv'
    simp only [Value.slice.injEq] at hv'
    obtain ⟨_, _, rfl⟩ := hv'
    unfold maxLen at hm
    exact ⟨hc, by omega⟩
end Go.Proofs.YtkjolaoajbdomaaGreatDoor.Hs
namespace Go.Proofs.YtkjolaoajbdomaaGreatDoor.Hs
open Go.RowKit
set_option linter.unusedVariables false
set_option linter.unusedSimpArgs false

theorem mk_run (c : Nat) (hc : c ≤ 281474976710656) (w : World) : (Instr.makeSlice 28 (.int .i64 0) (.int .i64 (c : Int))).run Tryz.prog w = .ok (.slice (some ⟨w.heap.size, 0, none⟩) 0 c) (w.alloc (.cells (madeCells #[.int .u8 0] c) 5)) := by
  obtain ⟨i, hi, hz, hs, hby⟩ := info_parts info_u8
  have h := run_make (P := Tryz.prog) w 28 5 i (.int .u8 0) Tryz.underlying28 hi hz .i64 .i64 0 c (Int.le_refl _) (by omega) (by rw [hby]; omega) (by omega)
  rw [hs, Nat.mul_one] at h
  exact h
theorem mk_own' (w : World) (base : Nat) (hb : base ≤ w.heap.size) (c : Nat) (hc : c ≤ 281474976710656) : Own (w.alloc (.cells (madeCells #[.int .u8 0] c) 5)) base (.slice (some ⟨w.heap.size, 0, none⟩) 0 c) [] :=
  ⟨rfl, .inr ⟨w.heap.size, c, _, rfl, hb, heap_alloc_new w _, Nat.zero_le _, by unfold maxLen; omega, by rw [size_madeCells, Nat.mul_one], by simp [cl]⟩⟩
set_option maxHeartbeats 400000 in
theorem md5Start_c (w : World) : Calls Tryz.prog 72 #[] w fun e w' => e = .returned (.agg #[.int .u32 md0.a, .int .u32 md0.b, .int .u32 md0.c, .int .u32 md0.d]) ∧ Below w.heap.size w w' := by
  go_enter Tryz.func72, Tryz.ntmps72
  go_wp2_with fail
  refine bodyPost_ret (v := .agg #[.int .u32 md0.a, .int .u32 md0.b, .int .u32 md0.c, .int .u32 md0.d]) (by simp [results, Tryz.results72, go_sem, md0]) rfl ⟨rfl, balloc (brefl w) _⟩
theorem idx4_0 (s : S4) (w : World) : (Instr.index 113 (.agg #[.int .u32 s.a, .int .u32 s.b, .int .u32 s.c, .int .u32 s.d]) (.int .i64 0)).run Tryz.prog w = .ok (.int .u32 s.a) w := by kernel_rfl
theorem idx4_1 (s : S4) (w : World) : (Instr.index 113 (.agg #[.int .u32 s.a, .int .u32 s.b, .int .u32 s.c, .int .u32 s.d]) (.int .i64 1)).run Tryz.prog w = .ok (.int .u32 s.b) w := by kernel_rfl
theorem idx4_2 (s : S4) (w : World) : (Instr.index 113 (.agg #[.int .u32 s.a, .int .u32 s.b, .int .u32 s.c, .int .u32 s.d]) (.int .i64 2)).run Tryz.prog w = .ok (.int .u32 s.c) w := by kernel_rfl
theorem idx4_3 (s : S4) (w : World) : (Instr.index 113 (.agg #[.int .u32 s.a, .int .u32 s.b, .int .u32 s.c, .int .u32 s.d]) (.int .i64 3)).run Tryz.prog w = .ok (.int .u32 s.d) w := by kernel_rfl
theorem idx4 (s : S4) (k : Nat) (hk : k < 4) (w : World) : (Instr.index 113 (.agg #[.int .u32 s.a, .int .u32 s.b, .int .u32 s.c, .int .u32 s.d]) (.int .i64 (k : Int))).run Tryz.prog w = .ok (.int .u32 (s.at k)) w := by
  match k, hk with
  | 0, _ => exact idx4_0 s w
  | 1, _ => exact idx4_1 s w
  | 2, _ => exact idx4_2 s w
  | 3, _ => exact idx4_3 s w
theorem at_lt {s : S4} (h : s.ok) (k : Nat) (hk : k < 4) : s.at k < 4294967296 := by
  match k, hk with
  | 0, _ => exact h.1
  | 1, _ => exact h.2.1
  | 2, _ => exact h.2.2.1
  | 3, _ => exact h.2.2.2
set_option maxRecDepth 100000 in
set_option maxHeartbeats 4000000 in
theorem MD5_c (b off n cap : Nat) (f : Nat → Nat) (w : World) (G : Gl w) (hn : n ≤ 140737488351296) (hc : n ≤ cap) (hcap : cap ≤ 9223372036854775807) (B : Bs w b off n f) :
    Calls Tryz.prog 57 #[.slice (some ⟨b, off, none⟩) n cap] w fun e w' => (∃ v, e = .returned v ∧ Own w' w.heap.size v (md5 f n)) ∧ Below w.heap.size w w' := by
  have SP := Lib.hid (md5_split f n)
  have hf := Lib.hid B.2.1
  have HB := Lib.hid B
  have HG := Lib.hid G
  have KO := Lib.hid (mdGo_ok (F := f) md0_ok (n / 64))
  clear B G
  go_enter Tryz.func57, Tryz.ntmps57
  go_wp2_with fail
  refine (md5Start_c _).mono ?_
  rintro e w1 ⟨rfl, hb⟩
  have B1 := Lib.hid hb
  clear hb
  go_wp2_with fail
  refine (md5Blocks_c md0 b off n cap f w1 (HG.out.below B1.out) md0_ok (HB.out.below B1.out) hn hc hcap).mono ?_
  rintro e w2 ⟨rfl, hb⟩
  have B2 := Lib.hid (bstep B1.out hb)
  clear hb
  unfold S4.v
  go_wp2_with fail
  have W3 := Lib.hid (balloc (brefl w2) (.cells #[.int .u32 (mdGo f md0 (n / 64)).a, .int .u32 (mdGo f md0 (n / 64)).b, .int .u32 (mdGo f md0 (n / 64)).c, .int .u32 (mdGo f md0 (n / 64)).d] 113))
  have S3 := Lib.hid (Sw.new w2 (mdGo f md0 (n / 64)) 113)
  have SZ := Lib.hid B2.out.size
  generalize mdGo f md0 (n / 64) = sv at *
  generalize w2.alloc (.cells #[.int .u32 sv.a, .int .u32 sv.b, .int .u32 sv.c, .int .u32 sv.d] 113) = w3 at *
  have B3 := Lib.hid (bstep B2.out W3.out)
  clear W3
  have LT : w2.heap.size < w3.heap.size := S3.out.1
  have KW : Hid (∀ x : World, Below w3.heap.size w3 x → w2.heap.size < w3.heap.size) := Lib.hid fun _ _ => LT
  refine (bitCount_c _ n cap _ hn).mono ?_
  rintro e w' ⟨rfl, rfl⟩
  have k1 : (0 : Int) ≤ (n : Int) := by omega
  have k2 : (n : Int) ≤ 140737488351296 := by omega
  go_wp2_with fail
  refine (unfinished_c b off n cap f _ hn hc hcap (HB.out.below B3.out)).mono ?_
  rintro e w4 ⟨⟨v, rfl, own⟩, hb⟩
  have O4 := Lib.hid own
  have B4 := Lib.hid hb
  have S4 := Lib.hid (S3.out.below hb)
  clear own hb S3
  have EL := ends_len f n
  have ZZ := zz_at n
  go_wp2_with fail
  rw [show 8 * (n : Int) % 4294967296 = ((8 * n % 4294967296 : Nat) : Int) from by omega]
  refine (appLow_c O4.out (8 * n % 4294967296) (Nat.mod_lt _ (by omega)) B4.out.size (by omega)).mono ?_
  rintro e w5 ⟨⟨v5, rfl, own⟩, hb, hs⟩
  have O5 := Lib.hid own
  have S5 := Lib.hid (S4.out.belowB LT hb)
  have B5 := Lib.hid (B4.out.trans hb)
  clear own hb hs S4 O4
  have EL5 : (ends f n ++ wb true (8 * n % 4294967296) 4).length = n % 64 + 1 + zz n + 4 := by rw [List.length_append, wb_len, EL]
  go_wp2_with fail
  rw [show 8 * (n : Int) / 4294967296 = ((8 * n / 4294967296 % 4294967296 : Nat) : Int) from by omega]
  refine (appLow_c O5.out (8 * n / 4294967296 % 4294967296) (Nat.mod_lt _ (by omega)) B5.out.size (by rw [EL5]; omega)).mono ?_
  rintro e w6 ⟨⟨v6, rfl, own⟩, hb, hs⟩
  rw [List.append_assoc, bits_low] at own
  have S6 := Lib.hid (S5.out.belowB LT hb)
  have B6 := Lib.hid (B5.out.trans hb)
  have ENL := en_len true f n
  obtain ⟨ge, ce, rfl, hge, hbe, hce, hce2⟩ := Own.bsC (l := en true f n) own (by rw [ENL]; omega) (en_byte hf.out)
  have BE := Lib.hid hbe
  have HCE := Lib.hid hce
  clear own hb hs S5 O5 hbe hce EL5
  obtain ⟨s1, s2, s3, s4, s5, s6, s7, s8, s9⟩ := S6.out
  go_wp2_with fail
  rw [ENL] at BE
  rw [ENL] at HCE
  have GE := Lib.hid ((HG.out.below B3.out).below B6.out)
  refine (md5Blocks_c sv ge 0 (n % 64 + 1 + zz n + 8) ce (fun i => (en true f n).getD i 0) w6 GE.out KO.out BE.out (by omega) HCE.out hce2).mono ?_
  rintro e w7 ⟨rfl, hb⟩
  have RO := Lib.hid (mdGo_ok (F := fun i => (en true f n).getD i 0) KO.out ((n % 64 + 1 + zz n + 8) / 64))
  generalize mdGo (fun i => (en true f n).getD i 0) sv ((n % 64 + 1 + zz n + 8) / 64) = rv at *
  have S7 := Lib.hid (S6.out.below hb)
  have B7 := Lib.hid (B6.out.trans (hb.mono (B6.out.size)))
  clear s1 s2 s3 s4 s5 s6 s7 s8 s9 hb BE HCE GE S6 hce2
  obtain ⟨s1, s2, s3, s4, s5, s6, s7, s8, s9⟩ := S7.out
  have MK := mk_run 16 (by omega)
  rw [show ((16 : Nat) : Int) = 16 from rfl] at MK
  unfold S4.v
  have BZ := Lib.hid (((((B3.out.trans (B7.out.mono B3.out.size)).setCell (p := ⟨w2.heap.size, 0, none⟩) SZ.out (.int .u32 rv.a)).setCell (p := ⟨w2.heap.size, 1, none⟩) SZ.out (.int .u32 rv.b)).setCell (p := ⟨w2.heap.size, 2, none⟩) SZ.out (.int .u32 rv.c)).setCell (p := ⟨w2.heap.size, 3, none⟩) SZ.out (.int .u32 rv.d))
  have HZ : ((((w7.setCell ⟨w2.heap.size, 0, none⟩ (.int .u32 rv.a)).setCell ⟨w2.heap.size, 1, none⟩ (.int .u32 rv.b)).setCell ⟨w2.heap.size, 2, none⟩ (.int .u32 rv.c)).setCell ⟨w2.heap.size, 3, none⟩ (.int .u32 rv.d)).heap.size = w7.heap.size := by simp [World.setCell]
  go_wp2_with fail
  clear s1 s2 s3 s4 s5 s6 s7 s8 s9
  generalize (((w7.setCell ⟨w2.heap.size, 0, none⟩ (.int .u32 rv.a)).setCell ⟨w2.heap.size, 1, none⟩ (.int .u32 rv.b)).setCell ⟨w2.heap.size, 2, none⟩ (.int .u32 rv.c)).setCell ⟨w2.heap.size, 3, none⟩ (.int .u32 rv.d) = w8 at *
  rw [← HZ]
  have BY := Lib.hid (balloc BZ.out (.cells (madeCells #[.int .u8 0] 16) 5))
  have OW := Lib.hid (mk_own' w8 w.heap.size BZ.out.size 16 (by omega))
  clear MK HZ
  generalize w8.alloc (.cells (madeCells #[.int .u8 0] 16) 5) = w9 at *
  go_loopw [6, 29] (fun v i wr => ∃ k : Nat, k ≤ 4 ∧ i = .int .i64 k ∧ Own wr w.heap.size v (ob true rv.at k) ∧ Below w.heap.size w wr) (fun _ i _ => 4 - (intOf i).toNat)
  case atStart => exact ⟨0, by omega, rfl, OW.out, BY.out⟩
  case round =>
    obtain ⟨k, hk, rfl, own, hb⟩ := hrel
    rename World => wr
    by_cases c : k < 4
    · have e0 : decide ((k : Int) < 4) = true := by rw [decide_eq_true_iff]; omega
      have IX := idx4 rv k c
      have OL := ob_len true rv.at k
      have AC := Lib.hid (appLow_c own (rv.at k) (at_lt RO.out k c) hb.size (by omega))
      have HB0 := Lib.hid hb
      clear own hb OL
      go_wp2_with fail
      refine AC.out.mono ?_
      rintro e wx ⟨⟨vx, rfl, own⟩, hb, hs⟩
      have OX := Lib.hid own
      have BX := Lib.hid (HB0.out.trans hb)
      clear own hb hs
      go_wp2_with fail
      go_roundw
      case rel => exact ⟨k + 1, by omega, by go_num, OX.out, BX.out⟩
      case measure => simp [intOf]; omega
    · have e0 : decide ((k : Int) < 4) = false := by rw [decide_eq_false_iff_not]; omega
      obtain rfl : k = 4 := by omega
      have OX := Lib.hid own
      have BX := Lib.hid hb
      clear own hb
      go_wp2_with fail
      go_ret
      exact ⟨⟨_, rfl, by rw [SP.out]; exact OX.out⟩, BX.out⟩
end Go.Proofs.YtkjolaoajbdomaaGreatDoor.Hs
namespace Go.Proofs.YtkjolaoajbdomaaGreatDoor.Hs
open Go.RowKit
set_option linter.unusedVariables false
set_option linter.unusedSimpArgs false

theorem at8_lt {s : S8} (h : s.ok) (k : Nat) (hk : k < 8) : s.at k < 4294967296 := by
  obtain ⟨h0, h1, h2, h3, h4, h5, h6, h7⟩ := h
  match k, hk with
  | 0, _ => exact h0
  | 1, _ => exact h1
  | 2, _ => exact h2
  | 3, _ => exact h3
  | 4, _ => exact h4
  | 5, _ => exact h5
  | 6, _ => exact h6
  | 7, _ => exact h7
end Go.Proofs.YtkjolaoajbdomaaGreatDoor.Hs

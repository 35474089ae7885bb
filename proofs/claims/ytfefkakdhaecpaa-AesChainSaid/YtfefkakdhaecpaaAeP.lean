/-
  The key schedule; the contract of aes.newCipher.
  Conditions: a key of sixteen bytes is handed in.
-/
import Derived.Test.YtfefkakdhaecpaaAeM
import Derived.Test.YtfefkakdhaecpaaAeN
import Derived.Test.YtfefkakdhaecpaaAeO
namespace Go.Proofs.Ytfefkakdhaecpaa.Ae
open Go.RowKit By
set_option linter.unusedVariables false
set_option linter.unusedSimpArgs false

theorem kX_stay (K : Nat → Nat) (t j : Nat) (h : j < 16 + 4 * t) : ∀ d, kX K (t + d) j = kX K t j
  | 0 => rfl
  | d + 1 => by
    rw [← Nat.add_assoc, kX_old K (t + d) j (by omega)]
    exact kX_stay K t j h d
/-- all round keys. -/
def kW (K : Nat → Nat) : Nat → Nat := kX K 40
theorem kW_at (K : Nat → Nat) (t j : Nat) (ht : t ≤ 40) (h : j < 16 + 4 * t) : kX K t j = kW K j := by
  have := kX_stay K t j h (40 - t)
  rw [show t + (40 - t) = 40 from by omega] at this
  exact this.symm
theorem kW_key (K : Nat → Nat) (j : Nat) (h : j < 16) : kW K j = K j := (kW_at K 0 j (by omega) (by omega)).symm
theorem kt_eq {W W' : Nat → Nat} (t k : Nat) (hk : k < 4) (h : ∀ j, j < 16 + 4 * t → W j = W' j) : kt W t k = kt W' t k := by
  unfold kt
  rw [h (4 * t + 13) (by omega), h (4 * t + 14) (by omega), h (4 * t + 15) (by omega), h (4 * t + 12) (by omega), h (4 * t + 12 + k) (by omega)]
theorem kW_new (K : Nat → Nat) (t k : Nat) (ht : t < 40) (hk : k < 4) : kW K (16 + 4 * t + k) = kW K (4 * t + k) ^^^ kt (kW K) t k := by
  have e := kX_new K t k hk
  rw [kW_at K (t + 1) _ (by omega) (by omega), kW_at K (t + 1) _ (by omega) (by omega), kt_eq t k hk (fun j hj => kW_at K t j (by omega) hj)] at e
  exact e
/-- a round key out of the one ahead. -/
theorem nk_kW (K : Nat → Nat) (r : Nat) (hr : r < 10) : ∀ i, i < 16 → nk (fun j => kW K (16 * r + j)) (pw (4 * r)) i = kW K (16 * (r + 1) + i)
  | 0, _ => by
    have e := kW_new K (4 * r) 0 (by omega) (by omega)
    unfold kt at e
    rw [if_pos (by omega), if_pos rfl, show 16 + 4 * (4 * r) + 0 = 16 * (r + 1) + 0 from by omega, show 4 * (4 * r) + 0 = 16 * r + 0 from by omega, show 4 * (4 * r) + 13 = 16 * r + 13 from by omega] at e
    exact e.symm
  | 1, _ => by
    have e := kW_new K (4 * r) 1 (by omega) (by omega)
    unfold kt at e
    rw [if_pos (by omega), if_neg (by omega), if_pos rfl, show 16 + 4 * (4 * r) + 1 = 16 * (r + 1) + 1 from by omega, show 4 * (4 * r) + 1 = 16 * r + 1 from by omega, show 4 * (4 * r) + 14 = 16 * r + 14 from by omega] at e
    exact e.symm
  | 2, _ => by
    have e := kW_new K (4 * r) 2 (by omega) (by omega)
    unfold kt at e
    rw [if_pos (by omega), if_neg (by omega), if_neg (by omega), if_pos rfl, show 16 + 4 * (4 * r) + 2 = 16 * (r + 1) + 2 from by omega, show 4 * (4 * r) + 2 = 16 * r + 2 from by omega, show 4 * (4 * r) + 15 = 16 * r + 15 from by omega] at e
    exact e.symm
  | 3, _ => by
    have e := kW_new K (4 * r) 3 (by omega) (by omega)
    unfold kt at e
    rw [if_pos (by omega), if_neg (by omega), if_neg (by omega), if_neg (by omega), show 16 + 4 * (4 * r) + 3 = 16 * (r + 1) + 3 from by omega, show 4 * (4 * r) + 3 = 16 * r + 3 from by omega, show 4 * (4 * r) + 12 = 16 * r + 12 from by omega] at e
    exact e.symm
  | i + 4, h => by
    have e := kW_new K (4 * r + (i + 4) / 4) ((i + 4) % 4) (by omega) (by omega)
    unfold kt at e
    rw [if_neg (by omega), show 16 + 4 * (4 * r + (i + 4) / 4) + (i + 4) % 4 = 16 * (r + 1) + (i + 4) from by omega, show 4 * (4 * r + (i + 4) / 4) + (i + 4) % 4 = 16 * r + (i + 4) from by omega, show 4 * (4 * r + (i + 4) / 4) + 12 + (i + 4) % 4 = 16 * (r + 1) + i from by omega] at e
    rw [e, ← nk_kW K r hr i (by omega)]
    rfl
theorem pw_4 (r : Nat) : pw (4 * (r + 1)) = xt (pw (4 * r)) := by
  have h1 : pw (4 * r + 1) = gm (pw (4 * r)) 2 := by
    show (if 4 * r % 4 = 0 then gm (pw (4 * r)) 2 else pw (4 * r)) = _
    rw [if_pos (by omega)]
  have h2 : pw (4 * r + 2) = pw (4 * r + 1) := by
    show (if (4 * r + 1) % 4 = 0 then _ else _) = _
    rw [if_neg (by omega)]
  have h3 : pw (4 * r + 3) = pw (4 * r + 2) := by
    show (if (4 * r + 2) % 4 = 0 then _ else _) = _
    rw [if_neg (by omega)]
  have h4 : pw (4 * r + 4) = pw (4 * r + 3) := by
    show (if (4 * r + 3) % 4 = 0 then _ else _) = _
    rw [if_neg (by omega)]
  rw [show 4 * (r + 1) = 4 * r + 4 from by omega, h4, h3, h2, h1, gm_2 _ (pw_lt _)]
theorem kW_lt {K : Nat → Nat} (hK : ∀ i, i < 16 → K i < 256) : ∀ j, j < 176 → kW K j < 256 := by
  intro j hj
  by_cases c : j < 16
  · rw [kW_key K j c]; exact hK j c
  · have e := kW_new K ((j - 16) / 4) (j % 4) (by omega) (by omega)
    rw [show 16 + 4 * ((j - 16) / 4) + j % 4 = j from by omega] at e
    have i1 := kW_lt hK (4 * ((j - 16) / 4) + j % 4) (by omega)
    rw [e]
    refine lt_xor8 i1 ?_
    unfold kt
    split
    · split
      · exact lt_xor8 (sbox_lt _) (pw_lt _)
      · split
        · exact sbox_lt _
        · split <;> exact sbox_lt _
    · exact kW_lt hK _ (by omega)
  termination_by j => j

/-- a part of an array is written. -/
def putp (g X : Nat → Nat) (p m : Nat) (j : Nat) : Nat := if p ≤ j ∧ j < p + m then X (j - p) else g j
theorem Ay.put {w : World} {b o n : Nat} {g : Nat → Nat} (h : Ay w b o n g) (X : Nat → Nat) (p m : Nat) (hp : p + m ≤ n) (hX : ∀ i, i < m → X i < 256) : Ay (w.setCells b (o + p) (ac X m)) b o n (putp g X p m) := by
  have hl := ac_len X m
  refine ⟨Nat.lt_of_lt_of_le h.1 (belowCells (B := 0) b (Nat.zero_le _) (ac X m) (o + p) w (Below.refl _ _)).size, fun i hi => ?_, fun i hi => ⟨?_, by rw [World.frozen?_setCells]; exact (h.2.2 i hi).2⟩⟩
  · unfold putp
    split
    · exact hX _ (by omega)
    · exact h.2.1 i hi
  · unfold putp
    by_cases c : p ≤ i ∧ i < p + m
    · rw [if_pos c]
      have e := World.cell?_setCells_in b (ac X m) (o + p) w (fun j hj => by rw [hl] at hj; rw [Nat.add_assoc]; exact Option.isSome_iff_exists.2 ⟨_, (h.2.2 (p + j) (by omega)).1⟩) (i - p) (by rw [hl]; omega)
      rw [show o + p + (i - p) = o + i from by omega] at e
      rw [e]
      have g2 := ac_get (g := X) (n := m) (j := i - p) (by omega)
      rw [List.getElem?_eq_getElem (by rw [hl]; omega)] at g2
      exact g2
    · rw [if_neg c, World.cell?_setCells_out b (ac X m) (o + p) w _ (fun _ _ => by show o + i < o + p ∨ o + p + (ac X m).length ≤ o + i; rw [hl]; omega)]
      exact (h.2.2 i hi).1
/-- a struct whose building is known. -/
theorem wpList_build_eq {P : Program} {w : World} {ops : Array Oper} {rest : List Oper} {o : Oper} {a : Act} {Q : Exit → Act → World → Prop} (hgd : o.guard = none) (t : TypeId) (parts : List (Nat × Operand))
    (ho : o.op = .build t parts.toArray) (vs : List (Nat × Value)) (hv : (parts.map fun (i, x) => (i, a.eval x)) = vs) (v : Value)
    (hr : (Instr.build t vs.toArray).run P w = .ok v w) (h : wpList P ops Q rest (a.put o.dst v) w) : wpList P ops Q (o :: rest) a w := by
  refine wpList_plain hgd fun K hK => ?_
  subst hv
  unfold Oper.wp execOp
  simp only [ho, Sem.run_bind, Sem.run_pure, Result.andThen_ok, List.map_toArray, hr]
  exact hK _ _ h
def ini (i : Nat) : Nat := if i < 256 then sbox i else 0
theorem build_ini (w : World) : (Instr.build 48 #[(0, .agg (ac sbox 256).toArray)]).run Try.prog w = .ok (.agg (ac ini 432).toArray) w := run_build w 48 _ _ (by kernel_rfl)

set_option maxRecDepth 100000 in
set_option maxHeartbeats 4000000 in
theorem newCipher_c (p : Option Addr) (cap : Nat) (K : Nat → Nat) (w : World) (S : Sl w p 16 K) (hK : ∀ i, i < 16 → K i < 256) :
    Calls Try.prog 16 #[.slice p 16 cap] w fun e w' => ∃ b, e = .returned (.pointer (some ⟨b, 0, none⟩)) ∧ w.heap.size ≤ b ∧ Ci w' b (kW K) ∧ Below w.heap.size w w' := by
  have HS := Lib.hid S
  have HK := Lib.hid hK
  have BD : Hid (∀ w, (Instr.build 48 [(0, Value.agg (ac sbox 256).toArray)].toArray).run Try.prog w = .ok (.agg (ac ini 432).toArray) w) := build_ini
  have DB := Lib.hid (fun x w (hx : x < 256) => double_c x w hx)
  clear S hK
  go_enter Try.func16, Try.ntmps16
  go_wp2_with fail
  refine (substitutes_c _).mono ?_
  rintro e w1 ⟨rfl, hb1⟩
  have S1 := Lib.hid (HS.out.below hb1)
  have B1 := Lib.hid hb1
  have BX := Lib.hid (hb1.trans ((balloc (brefl w1) (.cells (ac ini 432).toArray 48)).mono hb1.size))
  have I0 := Lib.hid (Ay.newC w1 432 ini 48 (fun i _ => by unfold ini; split; exact sbox_lt _; omega))
  have S2 := Lib.hid (S1.out.below (balloc (brefl w1) (.cells (ac ini 432).toArray 48)))
  have LB := hb1.size
  clear hb1
  go_wp2_with (refine wpList_build_eq rfl 48 [(0, .tmp 6)] rfl [(0, .agg (ac sbox 256).toArray)] rfl _ (BD.out _) ?_)
  generalize w1.alloc (.cells (ac ini 432).toArray 48) = W1 at *
  generalize w1.heap.size = b at *
  have T0 := Lib.hid (((I0.out.part 0 256 (by omega)).eq (g' := sbox) (fun i hi => by unfold ini; rw [Nat.zero_add, if_pos hi])))
  have K0 := Lib.hid (((I0.out.part 256 176 (by omega)).eq (g' := fun _ => 0) (fun i hi => by unfold ini; rw [if_neg (by omega)])))
  refine wp_region_noPanic ?_
  refine wp_region_held_drew (S := fun _ => True) (by kernel_rfl) trivial (fun hHeld => ?_)
  refine wpAnyH_take (i := 0) (v := ?_) rfl (by kernel_rfl) (by kernel_rfl) (by kernel_rfl) (fun _ _ _ h => h) (Or.inl ⟨by rfl, ?_⟩) hHeld ?_
  rotate_left
  · ((intro w _; go_simp); try with_reducible rfl)
  (try simp only [List.getElem_toArray, List.getElem_cons_succ, List.getElem_cons_zero, Act.put, List.setIfInBounds_toArray, List.set_cons_zero, List.set_cons_succ])
  refine wpAnyH_take (i := 1) (v := ?_) rfl (by kernel_rfl) (by kernel_rfl) (by kernel_rfl) (fun _ _ _ h => h) (Or.inl ⟨by rfl, ?_⟩) hHeld ?_
  rotate_left
  · ((intro w _; go_simp); try with_reducible rfl)
  (try simp only [List.getElem_toArray, List.getElem_cons_succ, List.getElem_cons_zero, Act.put, List.setIfInBounds_toArray, List.set_cons_zero, List.set_cons_succ])
  refine wpAnyH_take (i := 3) (v := ?_) rfl (by kernel_rfl) (by kernel_rfl) (by kernel_rfl) (fun _ _ _ h => h) (Or.inl ⟨by rfl, ?_⟩) hHeld ?_
  rotate_left
  · ((intro w _; go_simp); try with_reducible rfl)
  (try simp only [List.getElem_toArray, List.getElem_cons_succ, List.getElem_cons_zero, Act.put, List.setIfInBounds_toArray, List.set_cons_zero, List.set_cons_succ])
  refine wpAnyH_take (i := 4) (v := ?_) rfl (by kernel_rfl) (by kernel_rfl) (by kernel_rfl) (fun _ _ _ h => h) (Or.inl ⟨by rfl, ?_⟩) hHeld ?_
  rotate_left
  · ((intro w _; go_simp); try with_reducible rfl)
  (try simp only [List.getElem_toArray, List.getElem_cons_succ, List.getElem_cons_zero, Act.put, List.setIfInBounds_toArray, List.set_cons_zero, List.set_cons_succ])
  refine wpAnyH_ready (rs := [2]) (by kernel_rfl) (by simp) (AllReadyH.cons rfl (fun KQ hKQ => ?_) AllReadyH.nil)
  go_simp
  refine (toBlock_c p 16 cap K _ (S2.out.below (bdrew1 _ _)) (Nat.le_refl _) HK.out).mono ?_
  rintro e w' ⟨rfl, hb⟩
  have H2 := Lib.hid ((bdrew1 W1.heap.size W1).trans hb)
  clear hb
  go_wp2_with fail
  refine hKQ.out _ _ trivial (fun _ => ?_)
  clear hKQ KQ
  (try simp only [List.getElem_toArray, List.getElem_cons_succ, List.getElem_cons_zero, Act.put, List.setIfInBounds_toArray, List.set_cons_zero, List.set_cons_succ])
  refine wpAnyH_take (i := 5) (v := ?_) rfl (by kernel_rfl) (by kernel_rfl) (by kernel_rfl) (fun _ _ _ h => h) (Or.inl ⟨by rfl, ?_⟩) hHeld ?_
  rotate_left
  · ((intro w _; go_simp); try with_reducible rfl)
  (try simp only [List.getElem_toArray, List.getElem_cons_succ, List.getElem_cons_zero, Act.put, List.setIfInBounds_toArray, List.set_cons_zero, List.set_cons_succ])
  refine wpAnyH_ready (rs := [6]) (by kernel_rfl) (by simp) (AllReadyH.cons rfl (fun KQ hKQ => ?_) AllReadyH.nil)
  rw [if_pos (by rfl)]
  refine wp_store_mid _ _ _ rfl _ _ (ac (pad0 K 16) 16).toArray rfl rfl (by rw [ac_size]; exact ((K0.out.below H2.out).part 0 16 (by omega)).there) (by rw [ac_size]; exact info_blk) (ac_one _ 16) ?_
  rw [List.toList_toArray]
  refine hKQ.out _ _ trivial (fun _ => ?_)
  clear hKQ KQ
  (try simp only [List.getElem_toArray, List.getElem_cons_succ, List.getElem_cons_zero, Act.put, List.setIfInBounds_toArray, List.set_cons_zero, List.set_cons_succ])
  refine wpAnyH_done (by kernel_rfl) ?_ _
  refine NoPanic.normal ?_
  have T1 : Hid (Ay (w'.setCells b 256 (ac (pad0 K 16) 16)) b 0 256 sbox) := Lib.hid ((T0.out.below H2.out).apart b 256 (ac (pad0 K 16) 16) (.inr (.inl (by omega))))
  have K1 : Hid (Ay (w'.setCells b 256 (ac (pad0 K 16) 16)) b 256 176 (putp (fun _ => 0) (pad0 K 16) 0 16)) := Lib.hid (((K0.out.below H2.out).put (pad0 K 16) 0 16 (by omega) (fun i hi => by unfold pad0; rw [if_pos hi]; exact HK.out i hi)))
  have K2 : Hid (Ay (w'.setCells b 256 (ac (pad0 K 16) 16)) b 256 176 (fun j => if j < 16 * (0 + 1) then kW K j else 0)) := Lib.hid (K1.out.eq (fun j _ => by
    unfold putp
    by_cases c : j < 16
    · rw [if_pos (by omega), if_pos (by omega), Nat.sub_zero, kW_key K j c]
      unfold pad0
      rw [if_pos c]
    · rw [if_neg (by omega), if_neg (by omega)]))
  have B2 := Lib.hid (BX.out.trans (belowCells (B := w.heap.size) b LB (ac (pad0 K 16) 16) 256 _ (H2.out.mono BX.out.size)))
  clear H2 T0 K0 I0 S2 S1 BX B1 HS K1
  generalize w'.setCells b 256 (ac (pad0 K 16) 16) = W2 at *
  go_wp2_with fail
  go_loopw [4, 15] (fun s i wr => ∃ r : Nat, r ≤ 10 ∧ i = .int .i64 r ∧ s = .int .u8 (pw (4 * r)) ∧ Ay wr b 0 256 sbox ∧ Ay wr b 256 176 (fun j => if j < 16 * (r + 1) then kW K j else 0) ∧ Below w.heap.size w wr) (fun _ i _ => 10 - (intOf i).toNat)
  case atStart => exact ⟨0, by omega, rfl, rfl, T1.out, K2.out, B2.out⟩
  case round =>
    clear T1 K2 B2
    obtain ⟨r, hk, rfl, rfl, tr, kr, hb⟩ := hrel
    rename World => wr
    have TT := Lib.hid tr
    have KR := Lib.hid kr
    have BB := Lib.hid hb
    have SB := tr.1
    clear tr kr hb
    by_cases c : r < 10
    · have e0 : decide ((r : Int) < 10) = true := by rw [decide_eq_true_iff]; omega
      have RL : Hid (∀ i, i < 16 → kW K (16 * r + i) < 256) := Lib.hid (fun i hi => kW_lt HK.out _ (by omega))
      have NR := Lib.hid (fun i hi => nk_kW K r c i hi)
      have TRH : Hid (wr.drew.rangeAt b (256 + r * 16) (ac (fun i => kW K (16 * r + i)) 16)) := Lib.hid (by
        have := (((KR.out.below (bdrew1 _ _)).part (16 * r) 16 (by omega)).eq (g' := fun i => kW K (16 * r + i)) (fun i hi => by rw [if_pos (by omega)])).range
        rwa [show 256 + 16 * r = 256 + r * 16 from by omega] at this)
      have PL := pw_lt (4 * r)
      have P4 := Lib.hid (pw_4 r)
      have D1 := Lib.hid (fun w => DB.out (pw (4 * r)) w PL)
      rw [← P4.out] at D1
      obtain ⟨R, hR⟩ : ∃ R : Nat → Nat, R = fun i => kW K (16 * r + i) := ⟨_, rfl⟩
      have RLH : Hid (∀ i, i < 16 → R i < 256) := Lib.hid (by rw [hR]; exact RL.out)
      rw [← hR] at TRH NR
      clear hR RL
      generalize pw (4 * r) = s at *
      have NL := Lib.hid (fun i hi => nk_lt RLH.out PL i hi)
      have TR := TRH.out
      have TH : Hid (∀ w', Below wr.heap.size wr w' → w'.there b (256 + (r + 1) * 16) 16) := Lib.hid (fun w' k => by
        have := ((KR.out.below k).part (16 * (r + 1)) 16 (by omega)).there
        rwa [show 256 + 16 * (r + 1) = 256 + (r + 1) * 16 from by omega] at this)
      have r0 : (0 : Int) ≤ (r : Int) := by omega
      have r1 : (r : Int) < 10 := by omega
      have r2 : (r : Int) < 11 := by omega
      have r3 : (r : Int) + 1 < 11 := by omega
      have r4 : (0 : Int) ≤ (r : Int) + 1 := by omega
      have W1 : IntKind.i64.wrap ((r : Int) + 1) = (r : Int) + 1 := wrap_in (by omega) (by omega)
      have r5 : ((r : Int) + 1).toNat = r + 1 := by omega
      go_wp2_with fail
      refine wp_region_noPanic ?_
      refine wp_region_held_drew (S := fun _ => True) (by kernel_rfl) trivial (fun hHeld => ?_)
      refine wpAnyH_take (i := 0) (v := ?_) rfl (by kernel_rfl) (by kernel_rfl) (by kernel_rfl) (fun _ _ _ h => h) (Or.inl ⟨by rfl, ?_⟩) hHeld ?_
      rotate_left
      · ((intro w _; go_simp); try with_reducible rfl)
      (try simp only [List.getElem_toArray, List.getElem_cons_succ, List.getElem_cons_zero, Act.put, List.setIfInBounds_toArray, List.set_cons_zero, List.set_cons_succ])
      refine wpAnyH_take (i := 1) (v := ?_) rfl (by kernel_rfl) (by kernel_rfl) (by kernel_rfl) (fun _ _ _ h => h) (Or.inl ⟨by rfl, ?_⟩) hHeld ?_
      rotate_left
      · ((intro w _; go_simp); try with_reducible rfl)
      (try simp only [List.getElem_toArray, List.getElem_cons_succ, List.getElem_cons_zero, Act.put, List.setIfInBounds_toArray, List.set_cons_zero, List.set_cons_succ])
      refine wpAnyH_take (i := 2) (v := ?_) rfl (by kernel_rfl) (by kernel_rfl) (by kernel_rfl) (fun _ _ _ h => h) (Or.inl ⟨by rfl, ?_⟩) hHeld ?_
      rotate_left
      · ((intro w _; go_simp); try with_reducible rfl)
      (try simp only [List.getElem_toArray, List.getElem_cons_succ, List.getElem_cons_zero, Act.put, List.setIfInBounds_toArray, List.set_cons_zero, List.set_cons_succ])
      refine wpAnyH_take (i := 3) (v := ?_) rfl (by kernel_rfl) (by kernel_rfl) (by kernel_rfl) (fun _ _ _ h => h) (Or.inl ⟨by rfl, ?_⟩) hHeld ?_
      rotate_left
      · ((intro w _; go_simp); try with_reducible rfl)
      (try simp only [List.getElem_toArray, List.getElem_cons_succ, List.getElem_cons_zero, Act.put, List.setIfInBounds_toArray, List.set_cons_zero, List.set_cons_succ])
      refine wpAnyH_take (i := 4) (v := ?_) rfl (by kernel_rfl) (by kernel_rfl) (by kernel_rfl) (fun _ _ _ h => h) (Or.inl ⟨by rfl, ?_⟩) hHeld ?_
      rotate_left
      · ((intro w _; go_simp); try with_reducible rfl)
      (try simp only [List.getElem_toArray, List.getElem_cons_succ, List.getElem_cons_zero, Act.put, List.setIfInBounds_toArray, List.set_cons_zero, List.set_cons_succ])
      refine wpAnyH_take (i := 5) (v := ?_) rfl (by kernel_rfl) (by kernel_rfl) (by kernel_rfl) (fun _ _ _ h => h) (Or.inl ⟨by rfl, ?_⟩) hHeld ?_
      rotate_left
      · ((intro w _; go_simp); try with_reducible rfl)
      (try simp only [List.getElem_toArray, List.getElem_cons_succ, List.getElem_cons_zero, Act.put, List.setIfInBounds_toArray, List.set_cons_zero, List.set_cons_succ])
      refine wpAnyH_take (i := 6) (v := ?_) rfl (by kernel_rfl) (by kernel_rfl) (by kernel_rfl) (fun _ _ _ h => h) (Or.inl ⟨by rfl, ?_⟩) hHeld ?_
      rotate_left
      · ((intro w _; go_simp); try with_reducible rfl)
      (try simp only [List.getElem_toArray, List.getElem_cons_succ, List.getElem_cons_zero, Act.put, List.setIfInBounds_toArray, List.set_cons_zero, List.set_cons_succ])
      refine wpAnyH_take (i := 7) (v := ?_) rfl (by kernel_rfl) (by kernel_rfl) (by kernel_rfl) (fun _ _ _ h => h) (Or.inl ⟨by rfl, ?_⟩) hHeld ?_
      rotate_left
      · ((intro w _; go_simp); try with_reducible rfl)
      (try simp only [List.getElem_toArray, List.getElem_cons_succ, List.getElem_cons_zero, Act.put, List.setIfInBounds_toArray, List.set_cons_zero, List.set_cons_succ])
      refine wpAnyH_take (i := 8) (v := ?_) rfl (by kernel_rfl) (by kernel_rfl) (by kernel_rfl) (fun _ _ _ h => h) (Or.inl ⟨by rfl, ?_⟩) hHeld ?_
      rotate_left
      · ((intro w _; go_simp); try with_reducible rfl)
      (try simp only [List.getElem_toArray, List.getElem_cons_succ, List.getElem_cons_zero, Act.put, List.setIfInBounds_toArray, List.set_cons_zero, List.set_cons_succ])
      refine wpAnyH_take (i := 10) (v := ?_) rfl (by kernel_rfl) (by kernel_rfl) (by kernel_rfl) (fun _ _ _ h => h) (Or.inl ⟨by rfl, ?_⟩) hHeld ?_
      rotate_left
      · ((intro w _; go_simp); try with_reducible rfl)
      (try simp only [List.getElem_toArray, List.getElem_cons_succ, List.getElem_cons_zero, Act.put, List.setIfInBounds_toArray, List.set_cons_zero, List.set_cons_succ])
      refine wpAnyH_take (i := 12) (v := ?_) rfl (by kernel_rfl) (by kernel_rfl) (by kernel_rfl) (fun _ _ _ h => h) (Or.inl ⟨by rfl, ?_⟩) hHeld ?_
      rotate_left
      · ((intro w _; go_simp); try with_reducible rfl)
      (try simp only [List.getElem_toArray, List.getElem_cons_succ, List.getElem_cons_zero, Act.put, List.setIfInBounds_toArray, List.set_cons_zero, List.set_cons_succ])
      refine wpAnyH_take (i := 13) (v := ?_) rfl (by kernel_rfl) (by kernel_rfl) (by kernel_rfl) (fun _ _ _ h => h) (Or.inl ⟨by rfl, ?_⟩) hHeld ?_
      rotate_left
      · ((intro w _; go_simp); try with_reducible rfl)
      (try simp only [List.getElem_toArray, List.getElem_cons_succ, List.getElem_cons_zero, Act.put, List.setIfInBounds_toArray, List.set_cons_zero, List.set_cons_succ])
      refine wpAnyH_ready (rs := [9]) (by kernel_rfl) (by simp) (AllReadyH.cons rfl (fun KQ hKQ => ?_) AllReadyH.nil)
      rw [if_pos (by rfl)]
      refine wp_load_mid _ _ rfl _ _ rfl _ _ TR Try.underlying38 rfl (by rw [ac_len]; exact info_blk) ?_
      refine hKQ.out _ _ trivial (fun _ => ?_)
      clear hKQ KQ
      (try simp only [List.getElem_toArray, List.getElem_cons_succ, List.getElem_cons_zero, Act.put, List.setIfInBounds_toArray, List.set_cons_zero, List.set_cons_succ])
      refine wpAnyH_ready (rs := [11]) (by kernel_rfl) (by simp) (AllReadyH.cons rfl (fun KQ hKQ => ?_) AllReadyH.nil)
      go_simp
      refine (nextKey_c b R s _ (TT.out.below (bdrew1 _ _)) RLH.out PL).mono ?_
      rintro e w' ⟨rfl, hb⟩
      have H2 := Lib.hid ((bdrew1 wr.heap.size wr).trans hb)
      clear hb
      go_wp2_with fail
      refine hKQ.out _ _ trivial (fun _ => ?_)
      clear hKQ KQ
      (try simp only [List.getElem_toArray, List.getElem_cons_succ, List.getElem_cons_zero, Act.put, List.setIfInBounds_toArray, List.set_cons_zero, List.set_cons_succ])
      refine wpAnyH_take (i := 14) (v := ?_) rfl (by kernel_rfl) (by kernel_rfl) (by kernel_rfl) (fun _ _ _ h => h) (Or.inl ⟨by rfl, ?_⟩) hHeld ?_
      rotate_left
      · ((intro w _; go_simp); try with_reducible rfl)
      (try simp only [List.getElem_toArray, List.getElem_cons_succ, List.getElem_cons_zero, Act.put, List.setIfInBounds_toArray, List.set_cons_zero, List.set_cons_succ])
      refine wpAnyH_ready (rs := [15]) (by kernel_rfl) (by simp) (AllReadyH.cons rfl (fun KQ hKQ => ?_) AllReadyH.nil)
      rw [if_pos (by rfl)]
      refine wp_store_mid _ _ _ rfl _ _ (ac (nk R s) 16).toArray rfl rfl (by rw [ac_size]; exact TH.out _ H2.out) (by rw [ac_size]; exact info_blk) (ac_one _ 16) ?_
      rw [List.toList_toArray]
      refine hKQ.out _ _ trivial (fun _ => ?_)
      clear hKQ KQ
      (try simp only [List.getElem_toArray, List.getElem_cons_succ, List.getElem_cons_zero, Act.put, List.setIfInBounds_toArray, List.set_cons_zero, List.set_cons_succ])
      refine wpAnyH_done (by kernel_rfl) ?_ _
      refine NoPanic.normal ?_
      have T1 : Hid (Ay (w'.setCells b (256 + (r + 1) * 16) (ac (nk R s) 16)) b 0 256 sbox) := Lib.hid ((TT.out.below H2.out).apart b _ _ (.inr (.inl (by omega))))
      have K1 := Lib.hid ((KR.out.below H2.out).put (nk R s) (16 * (r + 1)) 16 (by omega) NL.out)
      rw [show 256 + 16 * (r + 1) = 256 + (r + 1) * 16 from by omega] at K1
      have K2 : Hid (Ay (w'.setCells b (256 + (r + 1) * 16) (ac (nk R s) 16)) b 256 176 (fun j => if j < 16 * (r + 1 + 1) then kW K j else 0)) := Lib.hid (K1.out.eq (fun j _ => by
        unfold putp
        by_cases c1 : j < 16 * (r + 1)
        · rw [if_neg (by omega)]
          show (if j < 16 * (r + 1) then kW K j else 0) = _
          rw [if_pos c1, if_pos (by omega)]
        · by_cases c2 : j < 16 * (r + 1) + 16
          · rw [if_pos (by omega), if_pos (by omega), NR.out _ (by omega), show 16 * (r + 1) + (j - 16 * (r + 1)) = j from by omega]
          · rw [if_neg (by omega)]
            show (if j < 16 * (r + 1) then kW K j else 0) = _
            rw [if_neg c1, if_neg (by omega)]))
      have B2 := Lib.hid (BB.out.trans (belowCells (B := w.heap.size) b LB (ac (nk R s) 16) (256 + (r + 1) * 16) _ (H2.out.mono BB.out.size)))
      clear H2 K1 TR TRH
      generalize w'.setCells b (256 + (r + 1) * 16) (ac (nk R s) 16) = W3 at *
      go_wp2_with fail
      refine (D1.out _).mono ?_
      rintro e w4 ⟨rfl, rfl⟩
      go_wp2_with fail
      go_roundw
      case rel => exact ⟨r + 1, by omega, by go_num, rfl, T1.out, K2.out, B2.out⟩
      case measure => simp [intOf]; omega
    · have e0 : decide ((r : Int) < 10) = false := by rw [decide_eq_false_iff_not]; omega
      obtain rfl : r = 10 := by omega
      have FI : Hid (Ci wr b (kW K)) := Lib.hid ⟨TT.out, KR.out.eq (fun i hi => by rw [if_pos (by omega)])⟩
      go_wp2_with fail
      go_ret
      exact ⟨b, rfl, LB, FI.out, BB.out⟩
end Go.Proofs.Ytfefkakdhaecpaa.Ae

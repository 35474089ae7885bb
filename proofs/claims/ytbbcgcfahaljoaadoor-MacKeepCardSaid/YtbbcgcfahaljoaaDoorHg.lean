/-
  Digits of the base sixteen and what they say; the contract of sundiallaw04.value; a text in the base sixteen, place by place.
  Conditions: none.
  Words appended to a slice of the call's own; the contract of sundialref04.schedule.
  Conditions: the block is there.
  The contract of sundialref04.SHA256.
  Conditions: no more than 2^47 - 4096 bytes.
-/
import Derived.Test.YtbbcgcfahaljoaaDoorHsZ
import Derived.Deep.RegionHeld3
namespace Go.Proofs.YtbbcgcfahaljoaaDoor.Hs
open Go.ChangeShapes Go.WideShapes Go.ChangeAt Go.RowKit Go.Joins
set_option linter.unusedVariables false
set_option linter.unusedSimpArgs false

theorem bs8_size (l : List Nat) : (bs8 l).size = l.length := by simp [bs8, ByteArray.size]
theorem hxL_get (f : Nat → Nat) (k : Nat) : ∀ n, k < n → (hxL f n)[2 * k]? = some (dg (f k / 16)) ∧ (hxL f n)[2 * k + 1]? = some (dg (f k % 16))
  | 0, h => absurd h (by omega)
  | n + 1, h => by
    have hl := hxL_len f n
    simp only [hxL]
    by_cases c : k < n
    · have ih := hxL_get f k n c
      rw [List.getElem?_append_left (by omega), List.getElem?_append_left (by omega)]
      exact ih
    · obtain rfl : k = n := by omega
      rw [List.getElem?_append_right (by omega), List.getElem?_append_right (by omega), hl]
      simp
theorem idx_bs8 (l : List Nat) (j x : Nat) (hx : l[j]? = some x) (hb : x < 256) (w : World) : (Instr.index 9 (.string (bs8 l)) (.int .i64 (j : Int))).run Tryd.prog w = .ok (.int .u8 (x : Int)) w := by
  have hj : j < l.length := (List.getElem?_eq_some_iff.1 hx).1
  have hs := bs8_size l
  rw [run_index_string w _ _ _ _ Tryd.underlying9]
  rw [dif_pos (by rw [hs]; omega)]
  have e : (bs8 l)[(j : Int).toNat]'(by rw [hs]; omega) = UInt8.ofNat x := by
    have := (List.getElem?_eq_some_iff.1 hx).2
    simp only [Int.toNat_natCast]
    show (bs8 l).data[j]'_ = _
    simp [bs8, this]
  rw [e]
  simp
  omega
end Go.Proofs.YtbbcgcfahaljoaaDoor.Hs
namespace Go.Proofs.YtbbcgcfahaljoaaDoor.Hs
open Go.RowKit
set_option linter.unusedVariables false
set_option linter.unusedSimpArgs false

theorem info_u32 : (Tryd.prog.info? 23).map (fun i => (i.zero, i.size, i.bytes)) = some (some (.int .u32 0), 1, 4) := by kernel_rfl
/-- words as cells. -/
def cw (l : List Nat) : List Value := l.map fun (x : Nat) => Value.int .u32 (x : Int)
theorem cw_len (l : List Nat) : (cw l).length = l.length := by simp [cw]
theorem cw_app (l k : List Nat) : cw (l ++ k) = cw l ++ cw k := by simp [cw]
theorem cw_one (l : List Nat) : ∀ u ∈ cw l, u.oneCell' = true := by
  intro u hu
  simp only [cw, List.mem_map] at hu
  obtain ⟨x, _, rfl⟩ := hu
  rfl
/-- v is a slice of the call's own that holds just these words. -/
def OwnW (w : World) (base : Nat) (v : Value) (l : List Nat) : Prop := w.ownsRow base 23 1 v l.length (cw l)
theorem OwnW.block {w : World} {base : Nat} {v : Value} {l : List Nat} (h : OwnW w base v l) : ∀ k, v.ownBlock = some k → base ≤ k := by
  intro k hk
  rcases h.2 with ⟨rfl, _⟩ | ⟨g, cap, cur, rfl, hb, _⟩
  · simp [Value.ownBlock] at hk
  · simp [Value.ownBlock] at hk
    omega
theorem OwnW.nil (w : World) (base : Nat) : OwnW w base (.slice none 0 0) [] := World.ownsRow_nil w base _ 1
theorem appW1 {w : World} {base : Nat} {v : Value} {l : List Nat} (h : OwnW w base v l) (x : Nat) (hb : base ≤ w.heap.size) (hn : l.length + 1 ≤ 1048576) (ty : TypeId) :
    ∃ v' w', (Builtin.append_ #[76, 76] ty #[v, .slice (some ⟨w.heap.size, 0, none⟩) 1 1]).run Tryd.prog (w.alloc (.cells #[.int .u32 (x : Int)] 23)) = .ok v' w' ∧ OwnW w' base v' (l ++ [x]) ∧ Below base w w' ∧ w.heap.size ≤ w'.heap.size := by
  obtain ⟨i, hi, hz, hs, hby⟩ := info_parts info_u32
  obtain ⟨v', w', hr, ho, hg, _, _⟩ := run_append_own_at (P := Tryd.prog) (w.alloc (.cells #[.int .u32 (x : Int)] 23)) base 76 ty 23 i (.int .u32 0) 1 4 Tryd.underlying76 hi hz hs hby rfl (by decide) v l.length (cw l) (World.ownsRow.alloc h _) ⟨w.heap.size, 0, none⟩ 1 1 (cw [x]) rfl
    (by intro j u hj; cases j with | zero => (simp [cw] at hj; subst hj; simp [Addr.add, go_sem]) | succ j => simp [cw] at hj) (cw_one _) (by unfold maxLen; omega) (by omega) (by simp; omega)
  have hB : Below base w (w.alloc (.cells #[.int .u32 (x : Int)] 23)) := (Below.refl base w).alloc hb _
  have hB2 := hB.grown hg (by simp; omega) h.block
  refine ⟨v', w', hr, ?_, hB2, hB2.size⟩
  unfold OwnW
  rw [cw_app, List.length_append]
  exact ho
/-- append of words that lie in memory. -/
theorem appWs {w : World} {base : Nat} {v : Value} {l : List Nat} (h : OwnW w base v l) {b n : Nat} {g : Nat → Nat} (hB : ∀ j, j < n → w.cell? ⟨b, j, none⟩ = some (.int .u32 (g j))) (cap : Nat) (hb : base ≤ w.heap.size) (hn : l.length + n ≤ 1048576) (ty : TypeId) :
    ∃ v' w', (Builtin.append_ #[76, 76] ty #[v, .slice (some ⟨b, 0, none⟩) n cap]).run Tryd.prog w = .ok v' w' ∧ OwnW w' base v' (l ++ bl g n) ∧ Below base w w' ∧ w.heap.size ≤ w'.heap.size := by
  obtain ⟨i, hi, hz, hs, hby⟩ := info_parts info_u32
  obtain ⟨v', w', hr, ho, hg, _, _⟩ := run_append_own_at (P := Tryd.prog) w base 76 ty 23 i (.int .u32 0) 1 4 Tryd.underlying76 hi hz hs hby rfl (by decide) v l.length (cw l) h ⟨b, 0, none⟩ n cap (cw (bl g n)) (by rw [cw_len, bl_len]; omega)
    (by
      intro j u hj
      have hj' : j < n := by have := (List.getElem?_eq_some_iff.1 hj).1; rw [cw_len, bl_len] at this; exact this
      have e := hB j hj'
      have : u = .int .u32 (g j : Int) := by simpa [cw, bl, hj'] using hj.symm
      rw [this]
      cases j <;> simpa [Addr.add] using e) (cw_one _) (by unfold maxLen; omega) (by omega) hb
  have hB2 := (Below.refl base w).grown hg hb h.block
  refine ⟨v', w', hr, ?_, hB2, hB2.size⟩
  unfold OwnW
  rw [cw_app, List.length_append, bl_len]
  exact ho
/-- a slice of the call's own as words in memory. -/
theorem OwnW.ws {w : World} {base : Nat} {v : Value} {g : Nat → Nat} {n : Nat} (h : OwnW w base v (bl g n)) (hl : 0 < n) (h8 : ∀ i, i < n → g i < 4294967296) : ∃ b cap, v = .slice (some ⟨b, 0, none⟩) n cap ∧ base ≤ b ∧ Ws w b 0 n g ∧ n ≤ cap ∧ cap ≤ 9223372036854775807 := by
  rcases h.2 with ⟨_, h0⟩ | ⟨b, cap, cur, hv, hb, hh, hc, hm, hcs, ht⟩
  · rw [bl_len] at h0; omega
  · rw [bl_len] at hv hc ht
    refine ⟨b, cap, hv, hb, ⟨(Array.getElem?_eq_some_iff.1 hh).1, h8, fun i hi => ?_⟩, hc, by unfold maxLen at hm; omega⟩
    have e : (cw (bl g n))[i]? = some (.int .u32 ((g i : Nat) : Int)) := by simp [cw, bl, hi]
    rw [← ht, Nat.mul_one, List.getElem?_take, if_pos hi] at e
    simp only [World.cell?, hh, Nat.zero_add]
    simpa using e
theorem bl_succ (g : Nat → Nat) (n : Nat) : bl g (n + 1) = bl g n ++ [g n] := by simp [bl, List.range_succ]
theorem bl_congr {g g' : Nat → Nat} {n : Nat} (h : ∀ i, i < n → g i = g' i) : bl g n = bl g' n := by
  unfold bl
  apply List.map_congr_left
  intro i hi
  exact h i (by simpa using hi)
theorem shaX_bl (M : Nat → Nat) (t : Nat) : bl (shaX M (t + 1)) (16 + (t + 1)) = bl (shaX M t) (16 + t) ++ [shaN (shaX M t) (16 + t)] := by
  rw [show 16 + (t + 1) = 16 + t + 1 from by omega, bl_succ]
  congr 1
  · apply bl_congr
    intro i hi
    show up _ _ _ i = _
    unfold up
    rw [if_neg (by omega)]
  · show [up _ _ _ (16 + t)] = _
    unfold up
    rw [if_pos rfl]

set_option maxRecDepth 100000 in
set_option maxHeartbeats 4000000 in
theorem rschedule_c (gp N cp m : Nat) (F : Nat → Nat) (w : World) (B : Bs w gp 0 N F) (hm : m + 64 ≤ N) (hN : N ≤ 140737488355328) :
    Calls Tryd.prog 54 #[.slice (some ⟨gp, 0, none⟩) N cp, .int .i64 (m : Int)] w fun e w' => (∃ v, e = .returned v ∧ OwnW w' w.heap.size v (bl (shaX (fun i => wrd false F (m + 4 * i)) 48) 64)) ∧ Below w.heap.size w w' := by
  have HB := Lib.hid B
  have ML : Hid (∀ i, wrd false F (m + 4 * i) < 4294967296) := Lib.hid fun i => wrd_lt false F B.2.1 _
  clear B
  have m0 : (0 : Int) ≤ (m : Int) := by omega
  have m1 : (m : Int) + 64 ≤ (N : Int) := by omega
  have m2 : (N : Int) ≤ 140737488355328 := by omega
  go_enter Tryd.func54, Tryd.ntmps54
  go_wp2_with fail
  go_loopw [5, 6] (fun v i wr => ∃ k : Nat, k ≤ 16 ∧ i = .int .i64 k ∧ OwnW wr w.heap.size v (bl (fun i => wrd false F (m + 4 * i)) k) ∧ Below w.heap.size w wr) (fun _ i _ => 16 - (intOf i).toNat)
  case atStart => exact ⟨0, by omega, rfl, OwnW.nil _ _, Below.refl _ _⟩
  case round =>
    obtain ⟨k, hk, rfl, own, hb⟩ := hrel
    rename World => wr
    by_cases c : k < 16
    · have e0 : decide ((k : Int) < 16) = true := by rw [decide_eq_true_iff]; omega
      have WC : Hid (Calls Tryd.prog 50 #[.slice (some ⟨gp, 0, none⟩) N cp, .int .i64 ((m : Int) + 4 * (k : Int)), .bool false] wr fun e w' => e = .returned (.int .u32 (wrd false F (m + 4 * k))) ∧ w' = wr) := Lib.hid (by
        have h := rword_high gp 0 N cp (m + 4 * k) F wr (HB.out.below hb) (by omega) (by omega)
        rwa [show ((m + 4 * k : Nat) : Int) = (m : Int) + 4 * (k : Int) from by omega] at h)
      obtain ⟨v1, w1, r1, o1, b1, s1⟩ := appW1 own (wrd false F (m + 4 * k)) hb.size (by rw [bl_len]; omega) 76
      rw [← bl_succ (fun i => wrd false F (m + 4 * i)) k] at o1
      have R1 := Lib.hid r1
      have O1 := Lib.hid o1
      have B1 := Lib.hid (hb.trans b1)
      clear r1 o1 b1 s1 own hb
      generalize wrd false F (m + 4 * k) = x at *
      go_wp2_with fail
      refine WC.out.mono ?_
      rintro e w' ⟨rfl, rfl⟩
      go_wp2_with (at_builtin; refine wpList_append_eq rfl _ _ 76 rfl _ _ v1 w1 rfl rfl R1.out ?_)
      go_roundw
      case rel => exact ⟨k + 1, by omega, by go_num, O1.out, B1.out⟩
      case measure => simp [intOf]; omega
    · have e0 : decide ((k : Int) < 16) = false := by rw [decide_eq_false_iff_not]; omega
      obtain rfl : k = 16 := by omega
      have O0 : Hid (OwnW wr w.heap.size _ (bl (shaX (fun i => wrd false F (m + 4 * i)) 0) 16)) := Lib.hid (by
        rw [bl_congr (g' := fun i => wrd false F (m + 4 * i)) (fun i hi => by show (if i < 16 then _ else _) = _; rw [if_pos hi])]
        exact own)
      have B0 := Lib.hid hb
      clear own hb
      rw [show ((16 : Nat) : Int) = 16 from rfl]
      go_wp2_with fail
      clear e0
      go_loopw [5, 7] (fun v i w5 => ∃ t : Nat, t ≤ 48 ∧ i = .int .i64 ((16 + t : Nat) : Int) ∧ OwnW w5 w.heap.size v (bl (shaX (fun i => wrd false F (m + 4 * i)) t) (16 + t)) ∧ Below w.heap.size w w5) (fun _ i _ => 64 - (intOf i).toNat)
      case atStart => exact ⟨0, by omega, rfl, O0.out, B0.out⟩
      case round =>
        clear O0 B0
        obtain ⟨t, ht, rfl, own, hb⟩ := hrel
        rename World => w5
        have SL := Lib.hid (fun i => shaX_lt (M := fun i => wrd false F (m + 4 * i)) (fun i _ => ML.out i) t i)
        have SB := Lib.hid (shaX_bl (fun i => wrd false F (m + 4 * i)) t)
        obtain ⟨k, hk⟩ : ∃ k, 16 + t = k := ⟨_, rfl⟩
        rw [hk]
        rw [hk] at own
        by_cases c : t < 48
        · have k16 : 16 ≤ k := by omega
          have k64 : k < 64 := by omega
          have e0 : decide ((k : Int) < 64) = true := by rw [decide_eq_true_iff]; omega
          rw [hk] at SB
          have NV : Hid (shaN (shaX (fun i => wrd false F (m + 4 * i)) t) k = (shaX (fun i => wrd false F (m + 4 * i)) t (k - 16) + sg0 (shaX (fun i => wrd false F (m + 4 * i)) t (k - 15)) + shaX (fun i => wrd false F (m + 4 * i)) t (k - 7) + sg1 (shaX (fun i => wrd false F (m + 4 * i)) t (k - 2))) % 4294967296) := rfl
          have HK := Lib.hid hk
          clear hk
          obtain ⟨gv, cv, rfl, gb, ws, hc1, hc2⟩ := own.ws (by omega) (fun i _ => SL.out i)
          obtain ⟨v1, w1, r1, o1, b1, s1⟩ := appW1 (w := w5.drew) (World.ownsRow.drew own) (shaN (shaX (fun i => wrd false F (m + 4 * i)) t) k) hb.size (by rw [bl_len]; omega) 76
          rw [← SB.out] at o1
          have O1 := Lib.hid o1
          have B1 := Lib.hid ((hb.trans (bdrew1 _ _)).trans b1)
          have R1 : Hid ((Builtin.append_ #[76, 76] 76 #[.slice (some ⟨gv, 0, none⟩) k cv, .slice (some ⟨w5.heap.size, 0, none⟩) 1 1]).run Tryd.prog (w5.drew.alloc (.cells #[.int .u32 ((shaN (shaX (fun i => wrd false F (m + 4 * i)) t) k : Nat) : Int)] 23)) = .ok v1 w1) := Lib.hid r1
          clear o1 b1 s1 r1 own hb SB
          generalize shaX (fun i => wrd false F (m + 4 * i)) t = g at *
          have c16 := ws.2.2 (k - 16) (by omega)
          have c15 := ws.2.2 (k - 15) (by omega)
          have c7 := ws.2.2 (k - 7) (by omega)
          have c2 := ws.2.2 (k - 2) (by omega)
          rw [Nat.zero_add] at c16 c15 c7 c2
          have l16 := SL.out (k - 16)
          have l15 := SL.out (k - 15)
          have l7 := SL.out (k - 7)
          have l2 := SL.out (k - 2)
          have EV : ((shaN g k : Nat) : Int) = ((g (k - 16) : Int) + (sg0 (g (k - 15)) : Int) + (g (k - 7) : Int) + (sg1 (g (k - 2)) : Int)) % 4294967296 := by rw [NV.out]; simp
          clear NV ws
          obtain ⟨xv, hxv⟩ : ∃ xv : Int, ((shaN g k : Nat) : Int) = xv := ⟨_, rfl⟩
          rw [hxv] at R1 EV
          clear hxv
          generalize g (k - 16) = x16 at *
          generalize g (k - 15) = x15 at *
          generalize g (k - 7) = x7 at *
          generalize g (k - 2) = x2 at *
          have X0 := sg0_eq l15
          have X1 := sg1_eq l2
          have y0 := sg0_lt l15
          have y1 := sg1_lt l2
          have EW : IntKind.u32.wrap (IntKind.u32.wrap (IntKind.u32.wrap ((x16 : Int) + (sg0 x15 : Int)) + (x7 : Int)) + (sg1 x2 : Int)) = xv := by
            rw [EV]
            simp only [IntKind.wrap, IntKind.bits, IntKind.signed]
            simp
          have HEW := Lib.hid EW
          clear EV EW
          have RR := Lib.hid (fun x n w (h : x < 4294967296) (h1 : 1 ≤ n) (h2 : n ≤ 31) => rright_c x n w h h1 h2)
          go_wp2_with fail
          refine (RR.out x15 7 _ l15 (by omega) (by omega)).mono ?_
          rintro e w' ⟨rfl, rfl⟩
          go_wp2_with fail
          refine (RR.out x15 18 _ l15 (by omega) (by omega)).mono ?_
          rintro e w' ⟨rfl, rfl⟩
          go_wp2_with fail
          refine (RR.out x2 17 _ l2 (by omega) (by omega)).mono ?_
          rintro e w' ⟨rfl, rfl⟩
          go_wp2_with fail
          refine (RR.out x2 19 _ l2 (by omega) (by omega)).mono ?_
          rintro e w' ⟨rfl, rfl⟩
          go_wp2_with fail
          have EW := HEW.out
          have W16 : IntKind.i64.wrap ((k : Int) - 16) = (k : Int) - 16 := wrap_in (by omega) (by omega)
          have W7 : IntKind.i64.wrap ((k : Int) - 7) = (k : Int) - 7 := wrap_in (by omega) (by omega)
          have p16 : (0 : Int) ≤ (k : Int) - 16 := by omega
          have p7 : (0 : Int) ≤ (k : Int) - 7 := by omega
          have q16 : (k : Int) - 16 < (k : Int) := by omega
          have q7 : (k : Int) - 7 < (k : Int) := by omega
          have t16 : ((k : Int) - 16).toNat = k - 16 := by omega
          have t7 : ((k : Int) - 7).toNat = k - 7 := by omega
          have p16' : (16 : Int) ≤ (k : Int) := by omega
          have p7' : (7 : Int) ≤ (k : Int) := by omega
          go_region_law (refine step_append_eq rfl (.tmp 55) (.tmp 71) 76 rfl _ _ v1 w1 rfl rfl R1.out ?_)
          all_goals
            go_wp2_with fail
            go_roundw
            case rel => exact ⟨t + 1, by omega, by rw [← Nat.add_assoc, HK.out]; go_num, O1.out, B1.out⟩
            case measure => have := HK.out; simp [intOf]; omega
        · have e0 : decide ((k : Int) < 64) = false := by rw [decide_eq_false_iff_not]; omega
          obtain rfl : t = 48 := by omega
          obtain rfl : k = 64 := by omega
          have O1 := Lib.hid own
          have B1 := Lib.hid hb
          clear own hb hk SL SB
          go_wp2_with fail
          go_ret
          exact ⟨⟨_, rfl, O1.out⟩, B1.out⟩
end Go.Proofs.YtbbcgcfahaljoaaDoor.Hs
namespace Go.Proofs.YtbbcgcfahaljoaaDoor.Hs
open Go.RowKit
set_option linter.unusedVariables false
set_option linter.unusedSimpArgs false

theorem As.ws {w : World} {b n : Nat} {g : Nat → Nat} (h : As w b n g) : Ws w b 0 n g :=
  ⟨h.1, h.2.1, fun i hi => by rw [Nat.zero_add]; exact (h.2.2 i hi).1⟩
theorem Ws.other {w : World} {b n : Nat} {g : Nat → Nat} (h : Ws w b 0 n g) {b' : Nat} (hb : b ≠ b') (i : Nat) (v : Value) : Ws (w.setCell ⟨b', i, none⟩ v) b 0 n g :=
  ⟨by simpa [World.setCell] using h.1, h.2.1, fun j hj => (World.cell?_setCell_other _ _ _ _ (fun q => hb (by simpa using (congrArg Addr.block q).symm))).trans (h.2.2 j hj)⟩
theorem bdr {a b : World} (h : Below a.heap.size a b) : Below a.heap.size a b.drew := h.drew
theorem rshaTable_b (w : World) :
    Calls Tryd.prog 53 #[] w fun e w' => e = .returned (.slice (some ⟨w.heap.size, 0, none⟩) 64 64) ∧ Ws w' w.heap.size 0 64 shaK ∧ Below w.heap.size w w' :=
  (rshaTable_c w).mono fun e w' ⟨he, hw⟩ => by
    subst hw
    exact ⟨he, cells_ws (l := shaKs) (by decide), balloc (brefl w) _⟩
theorem As.lit (w : World) (ty : TypeId) : As (w.alloc (.cells #[.int .u32 1779033703, .int .u32 3144134277, .int .u32 1013904242, .int .u32 2773480762, .int .u32 1359893119, .int .u32 2600822924, .int .u32 528734635, .int .u32 1541459225] ty)) w.heap.size 8 sha0.at := by
  refine ⟨by simp, fun i hi => ?_, fun i hi => ⟨?_, by simp [go_sem]⟩⟩
  · exact at8_lt sha0_ok i hi
  · rw [World.cell?_alloc_mark w _ _ (0, 0) i]
    match i, hi with
    | 0, _ => rfl
    | 1, _ => rfl
    | 2, _ => rfl
    | 3, _ => rfl
    | 4, _ => rfl
    | 5, _ => rfl
    | 6, _ => rfl
    | 7, _ => rfl
theorem Ws.lit8 (w : World) (s : S8) (hs : s.ok) (ty : TypeId) : Ws (w.alloc (.cells #[.int .u32 s.a, .int .u32 s.b, .int .u32 s.c, .int .u32 s.d, .int .u32 s.e, .int .u32 s.f, .int .u32 s.g, .int .u32 s.h] ty)) w.heap.size 0 8 s.at := by
  refine ⟨by simp, fun i hi => at8_lt hs i hi, fun i hi => ?_⟩
  rw [Nat.zero_add, World.cell?_alloc_mark w _ _ (0, 0) i]
  match i, hi with
  | 0, _ => rfl
  | 1, _ => rfl
  | 2, _ => rfl
  | 3, _ => rfl
  | 4, _ => rfl
  | 5, _ => rfl
  | 6, _ => rfl
  | 7, _ => rfl
/-- of two states, word by word. -/
theorem shaAdd_at (s r : S8) (i : Nat) (hi : i < 8) : (shaAdd s r).at i = (s.at i + r.at i) % 4294967296 := by
  match i, hi with
  | 0, _ => rfl
  | 1, _ => rfl
  | 2, _ => rfl
  | 3, _ => rfl
  | 4, _ => rfl
  | 5, _ => rfl
  | 6, _ => rfl
  | 7, _ => rfl

set_option maxRecDepth 100000 in
set_option maxHeartbeats 16000000 in
theorem rSHA_c (a : Option Addr) (n cap : Nat) (f : Nat → Nat) (w : World) (hn : n ≤ 140737488351296) (hf : ∀ i, f i < 256)
    (HA : Hid (∀ ty, ∃ v' w', (Builtin.append_ #[26, 26] ty #[.slice none 0 0, .slice a n cap]).run Tryd.prog w = .ok v' w' ∧ Own w' w.heap.size v' (bl f n) ∧ Below w.heap.size w w' ∧ w.heap.size ≤ w'.heap.size)) :
    Calls Tryd.prog 29 #[.slice a n cap] w fun e w' => (∃ v, e = .returned v ∧ Own w' w.heap.size v (sha256 f n)) ∧ Below w.heap.size w w' := by
  have PB := Lib.hid (pd_byte (low := false) (n := n) hf)
  have s0 : IntKind.u32.signed = false := rfl
  go_enter Tryd.func29, Tryd.ntmps29
  go_wp2_with fail
  refine (rpad_high a n cap f _ hn HA).mono ?_
  rintro e w1 ⟨⟨v, rfl, own⟩, hb⟩
  have NL := pd_len false f n
  obtain ⟨gp, cp, rfl, g1, bs⟩ := own.bs (by omega) PB.out
  have HB := Lib.hid hb
  have BS := Lib.hid bs
  clear own hb bs HA PB
  rw [NL] at BS
  rw [NL]
  clear NL
  go_wp2_with fail
  refine (rshaTable_b _).mono ?_
  rintro e w2 ⟨rfl, ws, hb⟩
  obtain ⟨nb, eN⟩ : ∃ nb, n + 1 + zz n + 8 = 64 * nb := ⟨(n + 1 + zz n + 8) / 64, by have := (zz_at n).1; omega⟩
  have bN : nb ≤ 2199023255552 := by have := (zz_at n).2; omega
  have EM : Hid (sha256 f n = ob false (shaGo (fun i => (pd false f n).getD i 0) sha0 nb).at 8) := Lib.hid (by unfold sha256; rw [eN, show 64 * nb / 64 = nb from by omega])
  rw [eN] at BS
  rw [eN]
  clear eN
  generalize (fun i => (pd false f n).getD i 0) = F at *
  have WS := Lib.hid (balloc (brefl w2) (.cells #[.int .u32 1779033703, .int .u32 3144134277, .int .u32 1013904242, .int .u32 2773480762, .int .u32 1359893119, .int .u32 2600822924, .int .u32 528734635, .int .u32 1541459225] 23))
  have BS0 := Lib.hid ((BS.out.below hb).below WS.out)
  have KS0 := Lib.hid (ws.below WS.out)
  have SW0 := Lib.hid (As.lit w2 23)
  have HB0 := Lib.hid (bstep (bstep HB.out hb) WS.out)
  have L1 : gp < w1.heap.size := BS.out.1
  have L2 : w1.heap.size < w2.heap.size := ws.1
  have L3 := HB.out.size
  clear BS HB WS ws hb hn hf
  go_wp2_with fail
  generalize w2.alloc (.cells #[.int .u32 1779033703, .int .u32 3144134277, .int .u32 1013904242, .int .u32 2773480762, .int .u32 1359893119, .int .u32 2600822924, .int .u32 528734635, .int .u32 1541459225] 23) = W0 at *
  go_loopw [6] (fun i wr => ∃ t m : Nat, m = 64 * t ∧ t ≤ nb ∧ i = .int .i64 (m : Int) ∧ As wr w2.heap.size 8 (shaGo F sha0 t).at ∧ Below w2.heap.size W0 wr) (fun i _ => 64 * nb - (intOf i).toNat)
  case atStart => exact ⟨0, 0, rfl, Nat.zero_le _, rfl, SW0.out, Below.refl _ _⟩
  case round =>
    clear SW0
    obtain ⟨t, m, hm0, ht, rfl, sw, bw⟩ := hrel
    rename World => w5
    have hm := Lib.hid hm0
    by_cases c : t < nb
    · have mN : m + 64 ≤ 64 * nb := by omega
      clear hm0
      have e0 : decide ((m : Int) < 64 * (nb : Int)) = true := by rw [decide_eq_true_iff]; omega
      have SO := shaGo_ok (F := F) sha0_ok t
      have SW := Lib.hid sw
      have BW := Lib.hid bw
      have l5 := sw.1
      have BS := Lib.hid (BS0.out.belowB (by omega) bw)
      have KS := Lib.hid (KS0.out.belowB (by omega) bw)
      have RS : Hid (shaGo F sha0 (t + 1) = shaAdd (shaGo F sha0 t) (shaRun (shaX (fun g => wrd false F (m + 4 * g)) 48) (shaGo F sha0 t) 64)) := Lib.hid (by rw [hm.out]; rfl)
      have SX := Lib.hid (fun i => shaX_lt (M := fun g => wrd false F (m + 4 * g)) (fun i _ => wrd_lt false F BS.out.2.1 _) 48 i)
      have SC := Lib.hid (rschedule_c gp (64 * nb) cp m F w5 BS.out mN (by omega))
      clear sw bw
      generalize shaX (fun g => wrd false F (m + 4 * g)) 48 = sx at *
      have MO := Lib.hid (fun k => shaRun_ok (M := sx) SO k)
      have RR : Hid (∀ k, shaRun sx (shaGo F sha0 t) (k + 1) = shaOne sx k (shaRun sx (shaGo F sha0 t) k)) := fun k => rfl
      have R0 : Hid (shaRun sx (shaGo F sha0 t) 0 = shaGo F sha0 t) := rfl
      generalize hst : shaGo F sha0 t = st at *
      clear hst
      generalize shaRun sx st = Rn at *
      have m0 : (0 : Int) ≤ (m : Int) := by omega
      have m1 : (m : Int) + 64 ≤ 64 * (nb : Int) := by omega
      have nb0 : (nb : Int) ≤ 2199023255552 := by omega
      go_wp2_with fail
      refine SC.out.mono ?_
      rintro e w6 ⟨⟨v6, rfl, own6⟩, hb⟩
      obtain ⟨gx, cx, rfl, xb, wx, xc, xm⟩ := own6.ws (by omega) (fun i _ => SX.out i)
      have B6 := Lib.hid hb
      have S6 := Lib.hid (SW.out.below hb)
      have X6 := Lib.hid wx
      have K6 := Lib.hid (KS.out.below hb)
      have T6 := Lib.hid (BS.out.below hb)
      obtain ⟨v7, w7, r7, o7, b7, s7⟩ := appWs (OwnW.nil w6 w6.heap.size) (b := w2.heap.size) (n := 8) (g := st.at) (fun j hj => (S6.out.2.2 j hj).1) 8 (Nat.le_refl _) (by simp) 76
      rw [List.nil_append] at o7
      obtain ⟨gv, cv, rfl, vb, wv, vc, vm⟩ := o7.ws (by omega) (fun i hi => at8_lt SO i hi)
      have R7 := Lib.hid r7
      have B7 := Lib.hid b7
      have V7 := Lib.hid wv
      have S7 := Lib.hid (S6.out.below b7)
      have X7 := Lib.hid (X6.out.below b7)
      have K7 := Lib.hid (K6.out.below b7)
      have lx := wx.1
      clear own6 hb wx r7 o7 b7 s7 wv S6 X6 K6 T6 SC
      go_wp2_with (at_builtin; refine wpList_append_eq rfl _ _ 76 rfl _ _ _ w7 rfl rfl R7.out ?_)
      clear R7
      clear e0
      go_loopw [8, 9] (fun v i w8 => ∃ k gv cv : Nat, k ≤ 64 ∧ i = .int .i64 k ∧ v = .slice (some ⟨gv, 0, none⟩) 8 cv ∧ w2.heap.size < gv ∧ Ws w8 gv 0 8 (Rn k).at ∧ Below w7.heap.size w7 w8) (fun _ i _ => 64 - (intOf i).toNat)
      case atStart => exact ⟨0, gv, cv, by omega, rfl, rfl, by have := B6.out.size; omega, by rw [R0.out]; exact V7.out, Below.refl _ _⟩
      case round =>
        clear V7
        obtain ⟨k, gu, cu, hk, rfl, rfl, gub, wv, b8⟩ := hrel
        rename World => w8
        have OK := MO.out k
        have RK := Lib.hid (RR.out k)
        have B8 := Lib.hid b8
        have WV := Lib.hid wv
        have X8 := Lib.hid (X7.out.below b8)
        have K8 := Lib.hid (K7.out.below b8)
        clear b8
        by_cases cc : k < 64
        · have e0 : decide ((k : Int) < 64) = true := by rw [decide_eq_true_iff]; omega
          have NX : Hid (Rn (k + 1) = ⟨(shaT sx k (Rn k) + shaU (Rn k)) % 4294967296, (Rn k).a, (Rn k).b, (Rn k).c, ((Rn k).d + shaT sx k (Rn k)) % 4294967296, (Rn k).e, (Rn k).f, (Rn k).g⟩) := RK
          clear RK
          have ET : Hid (shaT sx k (Rn k) = ((Rn k).h + bg1 (Rn k).e + chf (Rn k).e (Rn k).f (Rn k).g + shaK k + sx k) % 4294967296) := rfl
          have EU : Hid (shaU (Rn k) = (bg0 (Rn k).a + maj (Rn k).a (Rn k).b (Rn k).c) % 4294967296) := rfl
          have OKN := Lib.hid (MO.out (k + 1))
          have v0 : w8.cell? ⟨gu, 0, none⟩ = some (.int .u32 (Rn k).a) := wv.2.2 0 (by omega)
          have v1 : w8.cell? ⟨gu, 1, none⟩ = some (.int .u32 (Rn k).b) := wv.2.2 1 (by omega)
          have v2 : w8.cell? ⟨gu, 2, none⟩ = some (.int .u32 (Rn k).c) := wv.2.2 2 (by omega)
          have v3 : w8.cell? ⟨gu, 3, none⟩ = some (.int .u32 (Rn k).d) := wv.2.2 3 (by omega)
          have v4 : w8.cell? ⟨gu, 4, none⟩ = some (.int .u32 (Rn k).e) := wv.2.2 4 (by omega)
          have v5 : w8.cell? ⟨gu, 5, none⟩ = some (.int .u32 (Rn k).f) := wv.2.2 5 (by omega)
          have v6 : w8.cell? ⟨gu, 6, none⟩ = some (.int .u32 (Rn k).g) := wv.2.2 6 (by omega)
          have v7 : w8.cell? ⟨gu, 7, none⟩ = some (.int .u32 (Rn k).h) := wv.2.2 7 (by omega)
          have KC : w8.cell? ⟨w1.heap.size, k, none⟩ = some (.int .u32 (shaK k)) := by simpa using K8.out.2.2 k cc
          have XC : w8.cell? ⟨gx, k, none⟩ = some (.int .u32 (sx k)) := by simpa using X8.out.2.2 k cc
          clear wv
          obtain ⟨o1, o2, o3, o4, o5, o6, o7, o8⟩ := OK
          generalize shaT sx k (Rn k) = tv at *
          generalize shaU (Rn k) = uv at *
          generalize (Rn k).a = ra at *
          generalize (Rn k).b = rb at *
          generalize (Rn k).c = rc at *
          generalize (Rn k).d = rd at *
          generalize (Rn k).e = re at *
          generalize (Rn k).f = rf at *
          generalize (Rn k).g = rg at *
          generalize (Rn k).h = rh at *
          have WL := SX.out k
          have KL := shaK_lt k cc
          generalize sx k = ww at *
          generalize shaK k = kk at *
          have X0 := bg0_eq o1
          have X1 := bg1_eq o5
          have X2 := chf_eq o5 o6 o7
          have X3 := maj_eq o1 o2 o3
          have y0 := bg0_lt o1
          have y1 := bg1_lt o5
          have y2 := chf_lt (f := rf) (g := rg) o5
          have y3 := maj_lt (c := rc) o1 o2
          have k0 : (0 : Int) ≤ (k : Int) := by omega
          have k1 : (k : Int) < 64 := by omega
          have RC := Lib.hid (fun x n w (h : x < 4294967296) (h1 : 1 ≤ n) (h2 : n ≤ 31) => rright_c x n w h h1 h2)
          go_wp2_with fail
          go_quiet ((go_at_call 55; first | (with_reducible exact Calls.quiet_of_same (RC.out re 6 _ o5 (by omega) (by omega))) | (with_reducible exact Calls.quiet_of_same (RC.out re 11 _ o5 (by omega) (by omega))) | (with_reducible exact Calls.quiet_of_same (RC.out re 25 _ o5 (by omega) (by omega)))))
          rw [show ((((rh : Int) + (bg1 re : Int) + (chf re rf rg : Int) + (kk : Int)) % 4294967296 + (ww : Int)) % 4294967296) = (tv : Int) from by rw [ET.out]; omega]
          have gul := World.block_lt_of_cell? w8 _ v0
          generalize hw9 : w8.drewN nq = w9
          have D9 : Below w8.heap.size w8 w9 := by rw [← hw9]; exact bdrew (brefl _) _
          replace v0 := (D9.cell (p := ⟨gu, 0, none⟩) gul).trans v0
          replace v1 := (D9.cell (p := ⟨gu, 1, none⟩) gul).trans v1
          replace v2 := (D9.cell (p := ⟨gu, 2, none⟩) gul).trans v2
          replace v3 := (D9.cell (p := ⟨gu, 3, none⟩) gul).trans v3
          replace v4 := (D9.cell (p := ⟨gu, 4, none⟩) gul).trans v4
          replace v5 := (D9.cell (p := ⟨gu, 5, none⟩) gul).trans v5
          replace v6 := (D9.cell (p := ⟨gu, 6, none⟩) gul).trans v6
          replace v7 := (D9.cell (p := ⟨gu, 7, none⟩) gul).trans v7
          replace gul : gu < w9.heap.size := Nat.lt_of_lt_of_le gul D9.size
          have B9 := Lib.hid (bstep B8.out D9)
          clear hw9 D9 KC XC
          go_wp2_with fail
          go_quiet ((go_at_call 55; first | (with_reducible exact Calls.quiet_of_same (RC.out ra 2 _ o1 (by omega) (by omega))) | (with_reducible exact Calls.quiet_of_same (RC.out ra 13 _ o1 (by omega) (by omega))) | (with_reducible exact Calls.quiet_of_same (RC.out ra 22 _ o1 (by omega) (by omega)))))
          rw [show (((bg0 ra : Int) + (maj ra rb rc : Int)) % 4294967296) = (uv : Int) from by rw [EU.out]; omega]
          generalize hw10 : w9.drewN _ = w10
          have D9 : Below w9.heap.size w9 w10 := by rw [← hw10]; exact bdrew (brefl _) _
          replace v0 := (D9.cell (p := ⟨gu, 0, none⟩) gul).trans v0
          replace v1 := (D9.cell (p := ⟨gu, 1, none⟩) gul).trans v1
          replace v2 := (D9.cell (p := ⟨gu, 2, none⟩) gul).trans v2
          replace v3 := (D9.cell (p := ⟨gu, 3, none⟩) gul).trans v3
          replace v4 := (D9.cell (p := ⟨gu, 4, none⟩) gul).trans v4
          replace v5 := (D9.cell (p := ⟨gu, 5, none⟩) gul).trans v5
          replace v6 := (D9.cell (p := ⟨gu, 6, none⟩) gul).trans v6
          replace v7 := (D9.cell (p := ⟨gu, 7, none⟩) gul).trans v7
          have B10 := Lib.hid (bstep B9.out D9)
          replace gul : gu < w10.heap.size := Nat.lt_of_lt_of_le gul D9.size
          clear hw10 D9 X0 X1 X2 X3
          go_wp2_with fail
          have KP : Hid (∀ w' : World, Below w10.heap.size w10 w' → w'.cell? ⟨gu, 0, none⟩ = some (.int .u32 ra) ∧ w'.cell? ⟨gu, 1, none⟩ = some (.int .u32 rb) ∧ w'.cell? ⟨gu, 2, none⟩ = some (.int .u32 rc) ∧ w'.cell? ⟨gu, 3, none⟩ = some (.int .u32 rd) ∧ w'.cell? ⟨gu, 4, none⟩ = some (.int .u32 re) ∧ w'.cell? ⟨gu, 5, none⟩ = some (.int .u32 rf) ∧ w'.cell? ⟨gu, 6, none⟩ = some (.int .u32 rg) ∧ w'.cell? ⟨gu, 7, none⟩ = some (.int .u32 rh)) := Lib.hid fun w' D => ⟨(D.cell (p := ⟨gu, 0, none⟩) gul).trans v0, (D.cell (p := ⟨gu, 1, none⟩) gul).trans v1, (D.cell (p := ⟨gu, 2, none⟩) gul).trans v2, (D.cell (p := ⟨gu, 3, none⟩) gul).trans v3, (D.cell (p := ⟨gu, 4, none⟩) gul).trans v4, (D.cell (p := ⟨gu, 5, none⟩) gul).trans v5, (D.cell (p := ⟨gu, 6, none⟩) gul).trans v6, (D.cell (p := ⟨gu, 7, none⟩) gul).trans v7⟩
          have EWa : IntKind.u32.wrap ((tv : Int) + (uv : Int)) = (((tv + uv) % 4294967296 : Nat) : Int) := by simp only [IntKind.wrap, IntKind.bits, IntKind.signed]; simp
          have EWb : IntKind.u32.wrap ((rd : Int) + (tv : Int)) = (((rd + tv) % 4294967296 : Nat) : Int) := by simp only [IntKind.wrap, IntKind.bits, IntKind.signed]; simp
          go_region_held3 (fun w' => w'.cell? ⟨gu, 0, none⟩ = some (.int .u32 ra) ∧ w'.cell? ⟨gu, 1, none⟩ = some (.int .u32 rb) ∧ w'.cell? ⟨gu, 2, none⟩ = some (.int .u32 rc) ∧ w'.cell? ⟨gu, 3, none⟩ = some (.int .u32 rd) ∧ w'.cell? ⟨gu, 4, none⟩ = some (.int .u32 re) ∧ w'.cell? ⟨gu, 5, none⟩ = some (.int .u32 rf) ∧ w'.cell? ⟨gu, 6, none⟩ = some (.int .u32 rg) ∧ w'.cell? ⟨gu, 7, none⟩ = some (.int .u32 rh))
            (first | (refine KP.out _ ?_; repeat (first | exact brefl _ | refine balloc ?_ _ | refine bdr ?_)))
            (first | fail)
          have WN := Ws.lit8 w10 (Rn (k + 1)) OKN.out 23
          rw [NX.out] at WN
          have HWN := Lib.hid WN
          have gz : w2.heap.size < w10.heap.size := by omega
          clear WN
          go_wp2_with fail
          go_roundw
          case rel => exact ⟨k + 1, w10.heap.size, 8, by omega, by go_num, rfl, gz, by rw [NX.out]; exact HWN.out.below (bdrew1 _ _), (bstep B10.out (balloc (brefl w10) _)).drew⟩
          case measure => simp [intOf]; omega
        · have e0 : decide ((k : Int) < 64) = false := by rw [decide_eq_false_iff_not]; omega
          obtain rfl : k = 64 := by omega
          have S8' := Lib.hid (S7.out.below B8.out)
          have B28 := Lib.hid (BW.out.trans ((bstep (bstep B6.out B7.out) B8.out).mono (Nat.le_of_lt l5)))
          clear wv RR RK X8 K8 S7 X7 K7 MO R0
          have AT := Lib.hid (shaAdd_at st (Rn 64))
          generalize hrn : Rn 64 = rn at *
          clear hrn
          generalize shaAdd st rn = sn at *
          go_wp2_with fail
          clear e0
          go_loopw [14] (fun i w9 => ∃ j : Nat, j ≤ 8 ∧ i = .int .i64 j ∧ As w9 w2.heap.size 8 (fun i => if i < j then sn.at i else st.at i) ∧ Ws w9 gu 0 8 rn.at ∧ Below w2.heap.size W0 w9) (fun i _ => 8 - (intOf i).toNat)
          case atStart => exact ⟨0, by omega, rfl, S8'.out.eq (by simp), WV.out, B28.out⟩
          case round =>
            clear S8' WV B28
            obtain ⟨j, hj, rfl, asx, wr, b9⟩ := hrel
            rename World => w9
            have AS := Lib.hid asx
            have WR := Lib.hid wr
            have B9 := Lib.hid b9
            clear b9
            by_cases cj : j < 8
            · have e0 : decide ((j : Int) < 8) = true := by rw [decide_eq_true_iff]; omega
              obtain ⟨a1', a2⟩ := asx.2.2 j cj
              have a1 : w9.cell? ⟨w2.heap.size, j, none⟩ = some (.int .u32 (st.at j)) := by simpa using a1'
              clear a1'
              have c1 := wr.2.2 j cj
              have l1 := at8_lt SO j cj
              have l2 := wr.2.1 j cj
              have EV := AT.out j cj
              have ST := Lib.hid (AS.out.set j (sn.at j) cj (by rw [EV]; exact Nat.mod_lt _ (by omega)))
              rw [Nat.zero_add] at c1
              have HEV := Lib.hid EV
              clear EV asx wr
              have gne : ¬ gu = w2.heap.size := by omega
              have j0 : (0 : Int) ≤ (j : Int) := by omega
              have j1 : (j : Int) < 8 := by omega
              generalize st.at j = xs at *
              generalize rn.at j = xr at *
              go_wp2_with fail
              go_region
              rw [show ((xs : Int) + (xr : Int)) % 4294967296 = ((sn.at j : Nat) : Int) from by rw [HEV.out]; simp]
              go_wp2_with fail
              go_roundw
              case rel => exact ⟨j + 1, by omega, by go_num, (ST.out.below (bdrew1 _ _)).eq (fun i hi => by unfold up; by_cases e : i = j <;> by_cases e' : i < j <;> simp [e, e'] <;> omega), (WR.out.other (by omega) _ _).below (bdrew1 _ _), (B9.out.setCell (Nat.le_refl _) _).trans (bdrew1 _ _)⟩
              case measure => simp [intOf]; omega
            · have e0 : decide ((j : Int) < 8) = false := by rw [decide_eq_false_iff_not]; omega
              obtain rfl : j = 8 := by omega
              clear asx wr
              go_wp2_with fail
              go_roundw
              case rel => exact ⟨t + 1, m + 64, by rw [hm.out]; omega, by omega, by go_num, by rw [RS.out]; exact AS.out.eq (fun i hi => by simp [hi]), B9.out⟩
              case measure => simp [intOf]; omega
    · have e0 : decide ((m : Int) < 64 * (nb : Int)) = false := by rw [decide_eq_false_iff_not]; omega
      obtain rfl : t = nb := by omega
      have HW4 := Lib.hid sw.ws
      have BZ := Lib.hid (HB0.out.trans (bw.mono (by omega)))
      clear sw bw hm0
      go_wp2_with fail
      refine (rbytes_high _ _ _ _ _ _ HW4.out (by omega)).mono ?_
      rintro e w7 ⟨⟨v, rfl, own⟩, hb⟩
      have OW := Lib.hid (own.le BZ.out.size)
      have BE := Lib.hid (bstep BZ.out hb)
      clear own hb
      go_wp2_with fail
      go_ret
      exact ⟨⟨_, rfl, by rw [EM.out]; exact OW.out⟩, BE.out⟩
end Go.Proofs.YtbbcgcfahaljoaaDoor.Hs

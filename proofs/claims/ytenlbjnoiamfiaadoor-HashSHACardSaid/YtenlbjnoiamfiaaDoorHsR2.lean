/-
  Words appended to a slice of the call's own; the contract of sundialref04.schedule.
  Conditions: the block is there.
-/
import Derived.Test.YtenlbjnoiamfiaaDoorHsZ
namespace Go.Proofs.YtenlbjnoiamfiaaDoor.Hs
open Go.RowKit
set_option linter.unusedVariables false
set_option linter.unusedSimpArgs false

theorem info_u32 : (Tryd.prog.info? 29).map (fun i => (i.zero, i.size, i.bytes)) = some (some (.int .u32 0), 1, 4) := by kernel_rfl
/-- words as cells. -/
def cw (l : List Nat) : List Value := l.map fun (x : Nat) => Value.int .u32 (x : Int)
theorem cw_len (l : List Nat) : (cw l).length = l.length := by simp [cw]
theorem cw_app (l k : List Nat) : cw (l ++ k) = cw l ++ cw k := by simp [cw]
theorem cw_one (l : List Nat) : ∀ u ∈ cw l, u.oneCell' = true := by
  intro u hu
  simp only [cw, List.mem_map] at hu
  obtain ⟨x, _, rfl⟩ := hu
  rfl
/-- v is a slice of the call's own that holds just these words. -/
def OwnW (w : World) (base : Nat) (v : Value) (l : List Nat) : Prop := w.ownsRow base 29 1 v l.length (cw l)
theorem OwnW.block {w : World} {base : Nat} {v : Value} {l : List Nat} (h : OwnW w base v l) : ∀ k, v.ownBlock = some k → base ≤ k := by
  intro k hk
  rcases h.2 with ⟨rfl, _⟩ | ⟨g, cap, cur, rfl, hb, _⟩
  · simp [Value.ownBlock] at hk
  · simp [Value.ownBlock] at hk
    omega
theorem OwnW.nil (w : World) (base : Nat) : OwnW w base (.slice none 0 0) [] := World.ownsRow_nil w base _ 1
theorem appW1 {w : World} {base : Nat} {v : Value} {l : List Nat} (h : OwnW w base v l) (x : Nat) (hb : base ≤ w.heap.size) (hn : l.length + 1 ≤ 1048576) (ty : TypeId) :
    ∃ v' w', (Builtin.append_ #[38, 38] ty #[v, .slice (some ⟨w.heap.size, 0, none⟩) 1 1]).run Tryd.prog (w.alloc (.cells #[.int .u32 (x : Int)] 29)) = .ok v' w' ∧ OwnW w' base v' (l ++ [x]) ∧ Below base w w' ∧ w.heap.size ≤ w'.heap.size := by
  obtain ⟨i, hi, hz, hs, hby⟩ := info_parts info_u32
  obtain ⟨v', w', hr, ho, hg, _, _⟩ := run_append_own_at (P := Tryd.prog) (w.alloc (.cells #[.int .u32 (x : Int)] 29)) base 38 ty 29 i (.int .u32 0) 1 4 Tryd.underlying38 hi hz hs hby rfl (by decide) v l.length (cw l) (World.ownsRow.alloc h _) ⟨w.heap.size, 0, none⟩ 1 1 (cw [x]) rfl
    (by intro j u hj; cases j with | zero => (simp [cw] at hj; subst hj; simp [Addr.add, go_sem]) | succ j => simp [cw] at hj) (cw_one _) (by unfold maxLen; omega) (by omega) (by simp; omega)
  have hB : Below base w (w.alloc (.cells #[.int .u32 (x : Int)] 29)) := (Below.refl base w).alloc hb _
  have hB2 := hB.grown hg (by simp; omega) h.block
  refine ⟨v', w', hr, ?_, hB2, hB2.size⟩
  unfold OwnW
  rw [cw_app, List.length_append]
  exact ho
/-- append of words that lie in memory. -/
theorem appWs {w : World} {base : Nat} {v : Value} {l : List Nat} (h : OwnW w base v l) {b n : Nat} {g : Nat → Nat} (hB : ∀ j, j < n → w.cell? ⟨b, j, none⟩ = some (.int .u32 (g j))) (cap : Nat) (hb : base ≤ w.heap.size) (hn : l.length + n ≤ 1048576) (ty : TypeId) :
    ∃ v' w', (Builtin.append_ #[38, 38] ty #[v, .slice (some ⟨b, 0, none⟩) n cap]).run Tryd.prog w = .ok v' w' ∧ OwnW w' base v' (l ++ bl g n) ∧ Below base w w' ∧ w.heap.size ≤ w'.heap.size := by
  obtain ⟨i, hi, hz, hs, hby⟩ := info_parts info_u32
  obtain ⟨v', w', hr, ho, hg, _, _⟩ := run_append_own_at (P := Tryd.prog) w base 38 ty 29 i (.int .u32 0) 1 4 Tryd.underlying38 hi hz hs hby rfl (by decide) v l.length (cw l) h ⟨b, 0, none⟩ n cap (cw (bl g n)) (by rw [cw_len, bl_len]; omega)
    (by
      intro j u hj
      have hj' : j < n := by have := (List.getElem?_eq_some_iff.1 hj).1; rw [cw_len, bl_len] at this; exact this
      have e := hB j hj'
      have : u = .int .u32 (g j : Int) := by simpa [cw, bl, hj'] using hj.symm
      rw [this]
      cases j <;> simpa [Addr.add] using e) (cw_one _) (by unfold maxLen; omega) (by omega) hb
  have hB2 := (Below.refl base w).grown hg hb h.block
  refine ⟨v', w', hr, ?_, hB2, hB2.size⟩
  unfold OwnW
  rw [cw_app, List.length_append, bl_len]
  exact ho
/-- a slice of the call's own as words in memory. -/
theorem OwnW.ws {w : World} {base : Nat} {v : Value} {g : Nat → Nat} {n : Nat} (h : OwnW w base v (bl g n)) (hl : 0 < n) (h8 : ∀ i, i < n → g i < 4294967296) : ∃ b cap, v = .slice (some ⟨b, 0, none⟩) n cap ∧ base ≤ b ∧ Ws w b 0 n g ∧ n ≤ cap ∧ cap ≤ 9223372036854775807 := by
  rcases h.2 with ⟨_, h0⟩ | ⟨b, cap, cur, hv, hb, hh, hc, hm, hcs, ht⟩
  · rw [bl_len] at h0; omega
  · rw [bl_len] at hv hc ht
    refine ⟨b, cap, hv, hb, ⟨(Array.getElem?_eq_some_iff.1 hh).1, h8, fun i hi => ?_⟩, hc, by unfold maxLen at hm; omega⟩
    have e : (cw (bl g n))[i]? = some (.int .u32 ((g i : Nat) : Int)) := by simp [cw, bl, hi]
    rw [← ht, Nat.mul_one, List.getElem?_take, if_pos hi] at e
    simp only [World.cell?, hh, Nat.zero_add]
    simpa using e
theorem bl_succ (g : Nat → Nat) (n : Nat) : bl g (n + 1) = bl g n ++ [g n] := by simp [bl, List.range_succ]
theorem bl_congr {g g' : Nat → Nat} {n : Nat} (h : ∀ i, i < n → g i = g' i) : bl g n = bl g' n := by
  unfold bl
  apply List.map_congr_left
  intro i hi
  exact h i (by simpa using hi)
theorem shaX_bl (M : Nat → Nat) (t : Nat) : bl (shaX M (t + 1)) (16 + (t + 1)) = bl (shaX M t) (16 + t) ++ [shaN (shaX M t) (16 + t)] := by
  rw [show 16 + (t + 1) = 16 + t + 1 from by omega, bl_succ]
  congr 1
  · apply bl_congr
    intro i hi
    show up _ _ _ i = _
    unfold up
    rw [if_neg (by omega)]
  · show [up _ _ _ (16 + t)] = _
    unfold up
    rw [if_pos rfl]

set_option maxRecDepth 100000 in
set_option maxHeartbeats 4000000 in
theorem rschedule_c (gp N cp m : Nat) (F : Nat → Nat) (w : World) (B : Bs w gp 0 N F) (hm : m + 64 ≤ N) (hN : N ≤ 140737488355328) :
    Calls Tryd.prog 31 #[.slice (some ⟨gp, 0, none⟩) N cp, .int .i64 (m : Int)] w fun e w' => (∃ v, e = .returned v ∧ OwnW w' w.heap.size v (bl (shaX (fun i => wrd false F (m + 4 * i)) 48) 64)) ∧ Below w.heap.size w w' := by
  have HB := Lib.hid B
  have ML : Hid (∀ i, wrd false F (m + 4 * i) < 4294967296) := Lib.hid fun i => wrd_lt false F B.2.1 _
  clear B
  have m0 : (0 : Int) ≤ (m : Int) := by omega
  have m1 : (m : Int) + 64 ≤ (N : Int) := by omega
  have m2 : (N : Int) ≤ 140737488355328 := by omega
  go_enter Tryd.func31, Tryd.ntmps31
  go_wp2_with fail
  go_loopw [5, 6] (fun v i wr => ∃ k : Nat, k ≤ 16 ∧ i = .int .i64 k ∧ OwnW wr w.heap.size v (bl (fun i => wrd false F (m + 4 * i)) k) ∧ Below w.heap.size w wr) (fun _ i _ => 16 - (intOf i).toNat)
  case atStart => exact ⟨0, by omega, rfl, OwnW.nil _ _, Below.refl _ _⟩
  case round =>
    obtain ⟨k, hk, rfl, own, hb⟩ := hrel
    rename World => wr
    by_cases c : k < 16
    · have e0 : decide ((k : Int) < 16) = true := by rw [decide_eq_true_iff]; omega
      have WC : Hid (Calls Tryd.prog 24 #[.slice (some ⟨gp, 0, none⟩) N cp, .int .i64 ((m : Int) + 4 * (k : Int)), .bool false] wr fun e w' => e = .returned (.int .u32 (wrd false F (m + 4 * k))) ∧ w' = wr) := Lib.hid (by
        have h := rword_high gp 0 N cp (m + 4 * k) F wr (HB.out.below hb) (by omega) (by omega)
        rwa [show ((m + 4 * k : Nat) : Int) = (m : Int) + 4 * (k : Int) from by omega] at h)
      obtain ⟨v1, w1, r1, o1, b1, s1⟩ := appW1 own (wrd false F (m + 4 * k)) hb.size (by rw [bl_len]; omega) 38
      rw [← bl_succ (fun i => wrd false F (m + 4 * i)) k] at o1
      have R1 := Lib.hid r1
      have O1 := Lib.hid o1
      have B1 := Lib.hid (hb.trans b1)
      clear r1 o1 b1 s1 own hb
      generalize wrd false F (m + 4 * k) = x at *
      go_wp2_with fail
      refine WC.out.mono ?_
      rintro e w' ⟨rfl, rfl⟩
      go_wp2_with (at_builtin; refine wpList_append_eq rfl _ _ 38 rfl _ _ v1 w1 rfl rfl R1.out ?_)
      go_roundw
      case rel => exact ⟨k + 1, by omega, by go_num, O1.out, B1.out⟩
      case measure => simp [intOf]; omega
    · have e0 : decide ((k : Int) < 16) = false := by rw [decide_eq_false_iff_not]; omega
      obtain rfl : k = 16 := by omega
      have O0 : Hid (OwnW wr w.heap.size _ (bl (shaX (fun i => wrd false F (m + 4 * i)) 0) 16)) := Lib.hid (by
        rw [bl_congr (g' := fun i => wrd false F (m + 4 * i)) (fun i hi => by show (if i < 16 then _ else _) = _; rw [if_pos hi])]
        exact own)
      have B0 := Lib.hid hb
      clear own hb
      rw [show ((16 : Nat) : Int) = 16 from rfl]
      go_wp2_with fail
      clear e0
      go_loopw [5, 7] (fun v i w5 => ∃ t : Nat, t ≤ 48 ∧ i = .int .i64 ((16 + t : Nat) : Int) ∧ OwnW w5 w.heap.size v (bl (shaX (fun i => wrd false F (m + 4 * i)) t) (16 + t)) ∧ Below w.heap.size w w5) (fun _ i _ => 64 - (intOf i).toNat)
      case atStart => exact ⟨0, by omega, rfl, O0.out, B0.out⟩
      case round =>
        clear O0 B0
        obtain ⟨t, ht, rfl, own, hb⟩ := hrel
        rename World => w5
        have SL := Lib.hid (fun i => shaX_lt (M := fun i => wrd false F (m + 4 * i)) (fun i _ => ML.out i) t i)
        have SB := Lib.hid (shaX_bl (fun i => wrd false F (m + 4 * i)) t)
        obtain ⟨k, hk⟩ : ∃ k, 16 + t = k := ⟨_, rfl⟩
        rw [hk]
        rw [hk] at own
        by_cases c : t < 48
        · have k16 : 16 ≤ k := by omega
          have k64 : k < 64 := by omega
          have e0 : decide ((k : Int) < 64) = true := by rw [decide_eq_true_iff]; omega
          rw [hk] at SB
          have NV : Hid (shaN (shaX (fun i => wrd false F (m + 4 * i)) t) k = (shaX (fun i => wrd false F (m + 4 * i)) t (k - 16) + sg0 (shaX (fun i => wrd false F (m + 4 * i)) t (k - 15)) + shaX (fun i => wrd false F (m + 4 * i)) t (k - 7) + sg1 (shaX (fun i => wrd false F (m + 4 * i)) t (k - 2))) % 4294967296) := rfl
          have HK := Lib.hid hk
          clear hk
          obtain ⟨gv, cv, rfl, gb, ws, hc1, hc2⟩ := own.ws (by omega) (fun i _ => SL.out i)
          obtain ⟨v1, w1, r1, o1, b1, s1⟩ := appW1 (w := w5.drew) (World.ownsRow.drew own) (shaN (shaX (fun i => wrd false F (m + 4 * i)) t) k) hb.size (by rw [bl_len]; omega) 38
          rw [← SB.out] at o1
          have O1 := Lib.hid o1
          have B1 := Lib.hid ((hb.trans (bdrew1 _ _)).trans b1)
          have R1 : Hid ((Builtin.append_ #[38, 38] 38 #[.slice (some ⟨gv, 0, none⟩) k cv, .slice (some ⟨w5.heap.size, 0, none⟩) 1 1]).run Tryd.prog (w5.drew.alloc (.cells #[.int .u32 ((shaN (shaX (fun i => wrd false F (m + 4 * i)) t) k : Nat) : Int)] 29)) = .ok v1 w1) := Lib.hid r1
          clear o1 b1 s1 r1 own hb SB
          generalize shaX (fun i => wrd false F (m + 4 * i)) t = g at *
          have c16 := ws.2.2 (k - 16) (by omega)
          have c15 := ws.2.2 (k - 15) (by omega)
          have c7 := ws.2.2 (k - 7) (by omega)
          have c2 := ws.2.2 (k - 2) (by omega)
          rw [Nat.zero_add] at c16 c15 c7 c2
          have l16 := SL.out (k - 16)
          have l15 := SL.out (k - 15)
          have l7 := SL.out (k - 7)
          have l2 := SL.out (k - 2)
          have EV : ((shaN g k : Nat) : Int) = ((g (k - 16) : Int) + (sg0 (g (k - 15)) : Int) + (g (k - 7) : Int) + (sg1 (g (k - 2)) : Int)) % 4294967296 := by rw [NV.out]; simp
          clear NV ws
          obtain ⟨xv, hxv⟩ : ∃ xv : Int, ((shaN g k : Nat) : Int) = xv := ⟨_, rfl⟩
          rw [hxv] at R1 EV
          clear hxv
          generalize g (k - 16) = x16 at *
          generalize g (k - 15) = x15 at *
          generalize g (k - 7) = x7 at *
          generalize g (k - 2) = x2 at *
          have X0 := sg0_eq l15
          have X1 := sg1_eq l2
          have y0 := sg0_lt l15
          have y1 := sg1_lt l2
          have EW : IntKind.u32.wrap (IntKind.u32.wrap (IntKind.u32.wrap ((x16 : Int) + (sg0 x15 : Int)) + (x7 : Int)) + (sg1 x2 : Int)) = xv := by
            rw [EV]
            simp only [IntKind.wrap, IntKind.bits, IntKind.signed]
            simp
          have HEW := Lib.hid EW
          clear EV EW
          have RR := Lib.hid (fun x n w (h : x < 4294967296) (h1 : 1 ≤ n) (h2 : n ≤ 31) => rright_c x n w h h1 h2)
          go_wp2_with fail
          refine (RR.out x15 7 _ l15 (by omega) (by omega)).mono ?_
          rintro e w' ⟨rfl, rfl⟩
          go_wp2_with fail
          refine (RR.out x15 18 _ l15 (by omega) (by omega)).mono ?_
          rintro e w' ⟨rfl, rfl⟩
          go_wp2_with fail
          refine (RR.out x2 17 _ l2 (by omega) (by omega)).mono ?_
          rintro e w' ⟨rfl, rfl⟩
          go_wp2_with fail
          refine (RR.out x2 19 _ l2 (by omega) (by omega)).mono ?_
          rintro e w' ⟨rfl, rfl⟩
          go_wp2_with fail
          have EW := HEW.out
          have W16 : IntKind.i64.wrap ((k : Int) - 16) = (k : Int) - 16 := wrap_in (by omega) (by omega)
          have W7 : IntKind.i64.wrap ((k : Int) - 7) = (k : Int) - 7 := wrap_in (by omega) (by omega)
          have p16 : (0 : Int) ≤ (k : Int) - 16 := by omega
          have p7 : (0 : Int) ≤ (k : Int) - 7 := by omega
          have q16 : (k : Int) - 16 < (k : Int) := by omega
          have q7 : (k : Int) - 7 < (k : Int) := by omega
          have t16 : ((k : Int) - 16).toNat = k - 16 := by omega
          have t7 : ((k : Int) - 7).toNat = k - 7 := by omega
          have p16' : (16 : Int) ≤ (k : Int) := by omega
          have p7' : (7 : Int) ≤ (k : Int) := by omega
          go_region_law (refine step_append_eq rfl (.tmp 55) (.tmp 71) 38 rfl _ _ v1 w1 rfl rfl R1.out ?_)
          all_goals
            go_wp2_with fail
            go_roundw
            case rel => exact ⟨t + 1, by omega, by rw [← Nat.add_assoc, HK.out]; go_num, O1.out, B1.out⟩
            case measure => have := HK.out; simp [intOf]; omega
        · have e0 : decide ((k : Int) < 64) = false := by rw [decide_eq_false_iff_not]; omega
          obtain rfl : t = 48 := by omega
          obtain rfl : k = 64 := by omega
          have O1 := Lib.hid own
          have B1 := Lib.hid hb
          clear own hb hk SL SB
          go_wp2_with fail
          go_ret
          exact ⟨⟨_, rfl, O1.out⟩, B1.out⟩
end Go.Proofs.YtenlbjnoiamfiaaDoor.Hs

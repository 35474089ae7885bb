/-
  The law's step: one call of both disks.
  Conditions: none.
-/
import Derived.Test.YtpnphmfpandmkaaDkQ
import Derived.Deep.RegionHeld3
import Derived.BigRegion
namespace Go.Proofs.Ytpnphmfpandmkaa.Dk
open Go.RowKit Go.ChangeShapes Go.WideShapes Go.ChangeAt Go.Joins Go.Maps By Ct
set_option linter.unusedVariables false
set_option linter.unusedSimpArgs false

theorem avs_at {w : World} {b : Nat} {x : Ac} {dv : Value} (h : Blk w b (avs x dv)) : w.cell? ⟨b, 0, none⟩ = some (.int .i64 x.k) ∧ w.cell? ⟨b, 1, none⟩ = some (.int .i64 x.n) ∧ w.cell? ⟨b, 2, none⟩ = some (.int .i64 x.p) ∧ w.cell? ⟨b, 3, none⟩ = some (.string x.a) ∧ w.cell? ⟨b, 4, none⟩ = some (.string x.b) ∧ w.cell? ⟨b, 5, none⟩ = some dv :=
  ⟨(h.2 0 _ rfl).1, (h.2 1 _ rfl).1, (h.2 2 _ rfl).1, (h.2 3 _ rfl).1, (h.2 4 _ rfl).1, (h.2 5 _ rfl).1⟩
theorem Pt.ahead {w0 w w' : World} {d : Nat} {X : Nat → Prop} {s' : Dk} (q : Below w0.heap.size w0 w) (h : Pt w w' d X s') : Pt w0 w' d X s' := by
  obtain ⟨X', hp, hx, ht⟩ := h
  exact ⟨X', hp, fun k hk => (hx k hk).imp id (fun z => Nat.le_trans q.size z), (tu_below (X := X) q).tr ht (fun _ _ z => z)⟩
theorem pt_td {w w' : World} {d : Nat} {X : Nat → Prop} {s' : Dk} (h : Pm w' d s' X) (t : Tu (Td d) w w') : Pt w w' d X s' := ⟨X, h, fun k hk => .inl hk, t.mono (fun i q => by rw [show i = d from q]; exact h.2.1)⟩
theorem rt_td {w w' : World} {d : Nat} {X : Nat → Prop} {s' : Dk} (h : Rm w' d s' X) (t : Tu (Td d) w w') : Rt w w' d X s' := ⟨X, h, fun k hk => .inl hk, t.mono (fun i q => by rw [show i = d from q]; exact h.2.1)⟩
theorem blk_pt {w w' : World} {d b : Nat} {X : Nat → Prop} {s' : Dk} {vs : List Value} (h : Blk w b vs) (p : Pt w w' d X s') (hb : ¬ X b) : Blk w' b vs := by
  obtain ⟨X', hp, hx, ht⟩ := p
  exact blk_keep h (ht.block b h.1 hb) ht.size
theorem blk_rt {w w' : World} {d b : Nat} {X : Nat → Prop} {s' : Dk} {vs : List Value} (h : Blk w b vs) (p : Rt w w' d X s') (hb : ¬ X b) : Blk w' b vs := by
  obtain ⟨X', hp, hx, ht⟩ := p
  exact blk_keep h (ht.block b h.1 hb) ht.size
/-- bytes that may be written, whatever they are. -/
def Wy (w : World) (g n : Nat) : Prop := g < w.heap.size ∧ ∀ i, i < n → (∃ y, w.cell? ⟨g, i, none⟩ = some (.int .u8 y)) ∧ w.frozen? ⟨g, i, none⟩ = false
theorem wy_own {w : World} {base : Nat} {v : Value} {l : List Nat} (h : Own w base v l) (hl : 0 < l.length) : ∃ g cap, v = .slice (some ⟨g, 0, none⟩) l.length cap ∧ base ≤ g ∧ Wy w g l.length ∧ l.length ≤ cap ∧ cap ≤ maxLen := by
  rcases h.2 with ⟨hv, h0⟩ | ⟨g, cap, cur, hv, hb, hh, hc, hm, _⟩
  · omega
  · subst hv
    refine ⟨g, cap, rfl, hb, ⟨(Array.getElem?_eq_some_iff.1 hh).1, fun i hi => ⟨⟨((l.getD i 0 : Nat) : Int), ?_⟩, frozen_of_row w g i cur _ hh⟩⟩, hc, hm⟩
    rw [World.ownsRow.cellAt h i (by omega)]
    simp [cl, List.getD_eq_getElem?_getD, hi]
theorem Wy.set {w : World} {g n : Nat} (h : Wy w g n) (i : Nat) (y : Int) : Wy (w.setCell ⟨g, i, none⟩ (.int .u8 y)) g n := by
  refine ⟨by simpa [World.setCell] using h.1, fun j hj => ⟨?_, by rw [World.frozen?_setCell]; exact (h.2 j hj).2⟩⟩
  by_cases c : j = i
  · subst c
    exact ⟨y, World.cell?_setCell_same' _ _ _ (by obtain ⟨z, hz⟩ := (h.2 j hj).1; rw [hz]; rfl)⟩
  · obtain ⟨z, hz⟩ := (h.2 j hj).1
    exact ⟨z, (World.cell?_setCell_other _ _ _ _ (fun q => c (by simpa using (congrArg Addr.off q).symm))).trans hz⟩
theorem Wy.keep {w w' : World} {g n : Nat} (h : Wy w g n) (e : w'.heap[g]? = w.heap[g]?) (hs : w.heap.size ≤ w'.heap.size) : Wy w' g n :=
  ⟨Nat.lt_of_lt_of_le h.1 hs, fun i hi => ⟨by obtain ⟨y, hy⟩ := (h.2 i hi).1; exact ⟨y, (World.cell?_of_block (a := ⟨g, i, none⟩) e).trans hy⟩, (World.frozen?_of_block (a := ⟨g, i, none⟩) e).trans (h.2 i hi).2⟩⟩
/-- behind the call, a block is written that no disk has. -/
theorem Pt.wrote {w0 w w' wr : World} {d g : Nat} {X : Nat → Prop} {s' : Dk} (q : Below w0.heap.size w0 w) (h : Pt w w' d X s') (hg : w0.heap.size ≤ g) (hgl : g < w.heap.size) (gx : ¬ X g) (t : Tu (Td g) w' wr) : Pt w0 wr d X s' := by
  obtain ⟨X', hp, hx, ht⟩ := h
  refine ⟨X', hp.tu t (fun k hk hx' => ?_), fun k hk => (hx k hk).imp id (fun z => Nat.le_trans q.size z), ((tu_below (X := X) q).tr ht (fun _ _ z => z)).tr t (fun i hi z => ?_)⟩
  · have hk' : k = g := hk
    subst hk'
    rcases hx k hx' with z | z
    · exact gx z
    · omega
  · have z' : i = g := z
    omega
theorem readD_byte {s : Dk} (h : Wf s) (n : List UInt8) : ∀ y ∈ readD s n, y < 256 := by
  intro y hy
  unfold readD at hy
  split at hy
  · cases hy
  · split at hy
    · cases hy
    · cases hg : get s.fs n with
      | none => rw [hg] at hy; cases hy
      | some dt => rw [hg] at hy; exact (h.data _ (get_mem hg)).1 y hy
set_option maxRecDepth 100000 in
set_option maxHeartbeats 32000000 in
theorem step_c {w : World} {d m : Nat} {s : Dk} {X Y : Nat → Prop} {x : Ac} {dv : Value} (h : Bo w d m s X Y) (hl : s.fs.length ≤ 80000) (hx : Bd x) (hd : Sl w dv x.dat) (hv : 0 < x.dat.length → ∀ g, dv.ownBlock = some g → ¬ X g ∧ ¬ Y g) :
    Calls Try.prog 10 #[.pointer (some ⟨d, 0, none⟩), .pointer (some ⟨m, 0, none⟩), AV x dv] w fun e w' => e = .returned (.bool true) ∧ ∃ s', s'.fs.length ≤ s.fs.length + 1 ∧ Bt w w' d m X Y s' := by
  obtain ⟨da, dc, rfl⟩ := hd.form
  have H := Lib.hid h
  have HL := Lib.hid hl
  have HX := Lib.hid hx
  have HD := Lib.hid hd
  have HV := Lib.hid hv
  have B1 := Lib.hid (balloc (brefl w) (.cells #[.int .i64 x.k, .int .i64 x.n, .int .i64 x.p, .string x.a, .string x.b, .slice da x.dat.length dc] 31))
  have N1 : Hid (Blk (w.alloc (.cells #[.int .i64 x.k, .int .i64 x.n, .int .i64 x.p, .string x.a, .string x.b, .slice da x.dat.length dc] 31)) w.heap.size (avs x (.slice da x.dat.length dc))) := Lib.hid (Blk.new' w #[.int .i64 x.k, .int .i64 x.n, .int .i64 x.p, .string x.a, .string x.b, .slice da x.dat.length dc] 31)
  have NX : Hid (¬ X w.heap.size) := Lib.hid (fun q => by have := h.1.2.2.1 _ q; omega)
  have NY : Hid (¬ Y w.heap.size) := Lib.hid (fun q => by have := h.2.1.2.2.1 _ q; omega)
  clear h hl hx hd hv
  go_enter Try.func10, Try.ntmps10
  go_upto_region 1 with fail
  generalize w.alloc (.cells #[.int .i64 x.k, .int .i64 x.n, .int .i64 x.p, .string x.a, .string x.b, .slice da x.dat.length dc] 31) = w1 at *
  obtain ⟨c0, _⟩ := avs_at N1.out
  go_wp2_with fail
  refine (into_c x.k 6 w1 HX.out.1.1 HX.out.1.2 (by decide) (by decide)).mono ?_
  rintro e w' ⟨⟨r, hr, rfl⟩, hw⟩
  subst hw
  rename World => w1
  clear c0
  have r6 : r = 0 ∨ r = 1 ∨ r = 2 ∨ r = 3 ∨ r = 4 ∨ r = 5 := by omega
  clear hr
  rcases r6 with rfl | rfl | rfl | rfl | rfl | rfl
  · -- Write
    have LE := Lib.hid (len_write s x.a.data.toList x.dat)
    obtain ⟨n, hn⟩ : ∃ n, x.dat.length = n := ⟨_, rfl⟩
    have LN := Lib.hid hn
    have n1 : (n : Int) ≤ 140737488351232 := by have := HD.out.1; omega
    have n0 : (0 : Int) ≤ (n : Int) := by omega
    have S1 := HD.out.below B1.out
    have o0 := own0 w1 w1.heap.size (Nat.le_refl _)
    have b0 := balloc (brefl w1) (.cells #[] 5)
    obtain ⟨v2, w2, r2, o2, b2, s2, _⟩ := S1.app b0 o0 b0.size (by have := HD.out.1; simp; omega) 29
    rw [List.nil_append] at o2
    have c5 := ((N1.out.below b0).2 5 _ rfl).1
    have B2 := Lib.hid (b0.trans b2)
    have S2 := Lib.hid (out_sl (own_out o2 HD.out.2.1) HD.out.1)
    obtain ⟨g, hg1, hg2, hg3⟩ : ∃ g, w1.heap.size ≤ g ∧ g < w2.heap.size ∧ (0 < n → (∃ c, v2 = .slice (some ⟨g, 0, none⟩) n c ∧ n ≤ c ∧ c ≤ maxLen) ∧ Wy w2 g n) := by
      by_cases q : 0 < n
      · obtain ⟨g, cp, e1, e2, e3, e4, e5⟩ := wy_own o2 (by rw [hn]; exact q)
        rw [hn] at e1 e3 e4
        exact ⟨g, e2, e3.1, fun _ => ⟨⟨cp, e1, e4, e5⟩, e3⟩⟩
      · exact ⟨w1.heap.size, Nat.le_refl _, Nat.lt_of_lt_of_le (by simp) b2.size, fun z => absurd z q⟩
    have G1 := Lib.hid hg1
    have G2 := Lib.hid hg2
    have G3 := Lib.hid hg3
    have GV : Hid (∀ z, v2.ownBlock = some z → w1.heap.size ≤ z) := Lib.hid (fun z hz => (o2.lt z hz).1)
    obtain ⟨a2, k2, rfl⟩ := own_form o2
    rw [hn] at S2 GV ⊢ r2 c5
    have c3 := ((N1.out.below B2.out).2 3 _ rfl).1
    clear S1 o0 b0 o2 b2 s2 hg1 hg2 hg3 hn
    have ZB := B1.out.size
    have W2 := Lib.hid (Write_c (nm := x.a) (v := .slice a2 n k2) (l := x.dat) (H.out.below (bstep B1.out B2.out)).1 (by have := HL.out; omega) S2.out (fun _ q => by have := GV.out d q; have := H.out.1.2.2.1 d H.out.1.2.1; omega))
    rw [LN.out] at W2
    clear ZB
    go_upto_region 4 with (first | (at_builtin; refine wpList_append_eq rfl _ _ 29 rfl _ _ (.slice a2 n k2) w2 rfl rfl r2 ?_))
    clear r2 c5
    go_wp2_with fail
    refine W2.out.mono ?_
    rintro e w3 ⟨rfl, hp3⟩
    have P3 := Lib.hid hp3
    clear W2 hp3 c3
    have NG : Hid (¬ X g ∧ ¬ Y g) := Lib.hid ⟨fun q => by have := H.out.1.2.2.1 _ q; have := G1.out; have := B1.out.size; omega, fun q => by have := H.out.2.1.2.2.1 _ q; have := G1.out; have := B1.out.size; omega⟩
    have WG : Hid (0 < n → Wy w3 g n) := Lib.hid (fun q => by obtain ⟨_, _, _, ht⟩ := P3.out; exact (G3.out q).2.keep (ht.block g G2.out NG.out.1) ht.size)
    go_upto_region 6 with fail
    go_loopw [9] (fun iv wr => ∃ k : Nat, k ≤ n ∧ iv = .int .i64 (k : Nat) ∧ (0 < n → Wy wr g n) ∧ Tu (Td g) w3 wr) (fun iv _ => n - (intOf iv).toNat)
    case atStart => exact ⟨0, Nat.zero_le _, rfl, WG.out, Tu.rf _ _⟩
    case round =>
      obtain ⟨k, hk, rfl, hw, ht⟩ := hrel
      rename World => wr
      have HT := Lib.hid ht
      clear ht
      by_cases c : k < n
      · have e1 : decide ((k : Int) < (n : Int)) = true := decide_eq_true (by omega)
        have i1 : (k : Int) < (n : Int) := by omega
        have i0 : (0 : Int) ≤ (k : Int) := by omega
        obtain ⟨⟨cp, q1, q2, q3⟩, _⟩ := G3.out (by omega)
        obtain ⟨rfl, rfl⟩ : a2 = some ⟨g, 0, none⟩ ∧ k2 = cp := by cases q1; exact ⟨rfl, rfl⟩
        have WR := Lib.hid (hw (by omega))
        obtain ⟨y, hy⟩ := ((hw (by omega)).2 k c).1
        have fy := ((hw (by omega)).2 k c).2
        have s1 : (n : Int) ≤ (k2 : Int) := by omega
        have s2 : (k2 : Int) ≤ 9223372036854775807 := by unfold maxLen at q3; omega
        clear hw q2 q3
        go_wp2_with fail
        exact ⟨⟨k + 1, by omega, by go_num, fun _ => WR.out.set k 35, HT.out.tr (tu_set (X := Td g) rfl) (fun _ _ z => z)⟩, by simp [intOf]; omega⟩
      · have e1 : decide ((k : Int) < (n : Int)) = false := decide_eq_false (by omega)
        clear hw
        have PW := Lib.hid (P3.out.wrote (bstep B1.out B2.out) (Nat.le_trans B1.out.size G1.out) G2.out NG.out.1 HT.out)
        have N3 := blk_pt (N1.out.below B2.out) P3.out NX.out
        have N4 := Lib.hid (blk_keep N3 (HT.out.block _ N3.1 (fun z => by have z' : w.heap.size = g := z; have := G1.out; have := B1.out.size; have := N1.out.1; omega)) HT.out.size)
        have d3 := (N4.out.2 3 _ rfl).1
        have d5 := (N4.out.2 5 _ rfl).1
        rw [LN.out] at d5
        have SW : Hid (Sl wr (.slice da x.dat.length dc) x.dat) := Lib.hid (by obtain ⟨_, _, _, ht⟩ := PW.out; exact sl_keep HD.out (fun z hz hl h0 => ht.block z hl (fun q => (HV.out h0 z hz).1 q)) ht.size)
        have C2 := Lib.hid (rWrite_c (nm := x.a) (v := .slice da x.dat.length dc) (l := x.dat) (X := Y) (d := m) (s := s) (by obtain ⟨_, _, _, ht⟩ := PW.out; exact H.out.2.1.tu ht H.out.2.2) (by have := HL.out; omega) HX.out.2.2.2.1 SW.out (fun h0 q => (HV.out h0 m q).2 H.out.2.1.2.1))
        rw [LN.out] at C2
        clear N3
        go_wp2_with fail
        refine C2.out.mono ?_
        rintro e w5 ⟨rfl, hp⟩
        have QQ := Lib.hid (bt_of H.out PW.out (fun _ => hp))
        clear hp C2
        go_wp2_with fail
        go_ret
        exact ⟨rfl, _, LE.out, QQ.out⟩
  · -- Rename
    have LE := Lib.hid (len_rename s x.a.data.toList x.b.data.toList)
    have C1 : Hid (∀ z, Below w1.heap.size w1 z → Calls Try.prog 19 #[.pointer (some ⟨d, 0, none⟩), .string x.a, .string x.b] z fun e w' => e = .returned (.int .i64 (renameE s x.a.data.toList x.b.data.toList)) ∧ Pt z w' d X (renameS s x.a.data.toList x.b.data.toList)) := Lib.hid (fun z q => Rename_c (H.out.below (bstep B1.out q)).1 (by have := HL.out; omega))
    have C2 : Hid (∀ z, Pt w z d X (renameS s x.a.data.toList x.b.data.toList) → Calls Try.prog 22 #[.pointer (some ⟨m, 0, none⟩), .string x.a, .string x.b] z fun e w' => e = .returned (.int .i64 (renameE s x.a.data.toList x.b.data.toList)) ∧ Rt z w' m Y (renameS s x.a.data.toList x.b.data.toList)) := Lib.hid (fun z q => rRename_c (by obtain ⟨_, _, _, ht⟩ := q; exact H.out.2.1.tu ht H.out.2.2) (by have := HL.out; omega) HX.out.2.2.2.1 HX.out.2.2.2.2)
    go_upto_region 11 with fail
    refine wp_region_held_drew (S := fun w' => Blk w' w.heap.size (avs x (.slice da x.dat.length dc))) (by kernel_rfl) (N1.out.below (brefl w1).drew) (fun hHeld => ?_)
    refine wpAnyH_take (i := 0) (v := ?_) rfl (by kernel_rfl) (by kernel_rfl) (by kernel_rfl) (fun _ _ _ h => h) (Or.inl ⟨by rfl, ?_⟩) hHeld ?_
    rotate_left
    · ((intro w _; go_simp); try with_reducible rfl)
    (try simp only [List.getElem_toArray, List.getElem_cons_succ, List.getElem_cons_zero, Act.put, List.setIfInBounds_toArray, List.set_cons_zero, List.set_cons_succ])
    refine wpAnyH_take (i := 1) (v := ?_) rfl (by kernel_rfl) (by kernel_rfl) (by kernel_rfl) (fun _ _ _ h => h) (Or.inl ⟨by rfl, ?_⟩) hHeld ?_
    rotate_left
    · ((intro w _; go_simp); try with_reducible rfl)
    (try simp only [List.getElem_toArray, List.getElem_cons_succ, List.getElem_cons_zero, Act.put, List.setIfInBounds_toArray, List.set_cons_zero, List.set_cons_succ])
    refine wpAnyH_take (i := 2) (v := ?_) rfl (by kernel_rfl) (by kernel_rfl) (by kernel_rfl) (fun _ _ _ h => h) (Or.inl ⟨by rfl, ?_⟩) hHeld ?_
    rotate_left
    · (intro w hSw; obtain ⟨c0, c1, c2, c3, c4, c5⟩ := avs_at hSw; clear hSw; go_simp; try with_reducible rfl)
    (try simp only [List.getElem_toArray, List.getElem_cons_succ, List.getElem_cons_zero, Act.put, List.setIfInBounds_toArray, List.set_cons_zero, List.set_cons_succ])
    refine wpAnyH_take (i := 3) (v := ?_) rfl (by kernel_rfl) (by kernel_rfl) (by kernel_rfl) (fun _ _ _ h => h) (Or.inl ⟨by rfl, ?_⟩) hHeld ?_
    rotate_left
    · ((intro w _; go_simp); try with_reducible rfl)
    (try simp only [List.getElem_toArray, List.getElem_cons_succ, List.getElem_cons_zero, Act.put, List.setIfInBounds_toArray, List.set_cons_zero, List.set_cons_succ])
    refine wpAnyH_take (i := 4) (v := ?_) rfl (by kernel_rfl) (by kernel_rfl) (by kernel_rfl) (fun _ _ _ h => h) (Or.inl ⟨by rfl, ?_⟩) hHeld ?_
    rotate_left
    · (intro w hSw; obtain ⟨c0, c1, c2, c3, c4, c5⟩ := avs_at hSw; clear hSw; go_simp; try with_reducible rfl)
    (try simp only [List.getElem_toArray, List.getElem_cons_succ, List.getElem_cons_zero, Act.put, List.setIfInBounds_toArray, List.set_cons_zero, List.set_cons_succ])
    refine wpAnyH_take (i := 6) (v := ?_) rfl (by kernel_rfl) (by kernel_rfl) (by kernel_rfl) (fun _ _ _ h => h) (Or.inl ⟨by rfl, ?_⟩) hHeld ?_
    rotate_left
    · ((intro w _; go_simp); try with_reducible rfl)
    (try simp only [List.getElem_toArray, List.getElem_cons_succ, List.getElem_cons_zero, Act.put, List.setIfInBounds_toArray, List.set_cons_zero, List.set_cons_succ])
    refine wpAnyH_take (i := 7) (v := ?_) rfl (by kernel_rfl) (by kernel_rfl) (by kernel_rfl) (fun _ _ _ h => h) (Or.inl ⟨by rfl, ?_⟩) hHeld ?_
    rotate_left
    · ((intro w _; go_simp); try with_reducible rfl)
    (try simp only [List.getElem_toArray, List.getElem_cons_succ, List.getElem_cons_zero, Act.put, List.setIfInBounds_toArray, List.set_cons_zero, List.set_cons_succ])
    refine wpAnyH_take (i := 8) (v := ?_) rfl (by kernel_rfl) (by kernel_rfl) (by kernel_rfl) (fun _ _ _ h => h) (Or.inl ⟨by rfl, ?_⟩) hHeld ?_
    rotate_left
    · (intro w hSw; obtain ⟨c0, c1, c2, c3, c4, c5⟩ := avs_at hSw; clear hSw; go_simp; try with_reducible rfl)
    (try simp only [List.getElem_toArray, List.getElem_cons_succ, List.getElem_cons_zero, Act.put, List.setIfInBounds_toArray, List.set_cons_zero, List.set_cons_succ])
    refine wpAnyH_take (i := 9) (v := ?_) rfl (by kernel_rfl) (by kernel_rfl) (by kernel_rfl) (fun _ _ _ h => h) (Or.inl ⟨by rfl, ?_⟩) hHeld ?_
    rotate_left
    · ((intro w _; go_simp); try with_reducible rfl)
    (try simp only [List.getElem_toArray, List.getElem_cons_succ, List.getElem_cons_zero, Act.put, List.setIfInBounds_toArray, List.set_cons_zero, List.set_cons_succ])
    refine wpAnyH_take (i := 10) (v := ?_) rfl (by kernel_rfl) (by kernel_rfl) (by kernel_rfl) (fun _ _ _ h => h) (Or.inl ⟨by rfl, ?_⟩) hHeld ?_
    rotate_left
    · (intro w hSw; obtain ⟨c0, c1, c2, c3, c4, c5⟩ := avs_at hSw; clear hSw; go_simp; try with_reducible rfl)
    (try simp only [List.getElem_toArray, List.getElem_cons_succ, List.getElem_cons_zero, Act.put, List.setIfInBounds_toArray, List.set_cons_zero, List.set_cons_succ])
    refine wpAnyH_ready (rs := [5]) (by kernel_rfl) (by simp) (AllReadyH.cons rfl (fun KQ hKQ => ?_) AllReadyH.nil)
    go_simp
    refine (C1.out _ (brefl w1).drew).mono ?_
    rintro e w' ⟨rfl, hp⟩
    have PP := Lib.hid (Pt.ahead (bstep B1.out (brefl w1).drew) hp)
    have hNext := blk_pt (N1.out.below (brefl w1).drew) hp NX.out
    clear hp
    go_wp2_with fail
    refine hKQ.out _ _ hNext (fun hH2 => ?_)
    clear hKQ KQ hHeld hNext
    have hHeld := hH2
    clear hH2
    (try simp only [List.getElem_toArray, List.getElem_cons_succ, List.getElem_cons_zero, Act.put, List.setIfInBounds_toArray, List.set_cons_zero, List.set_cons_succ])
    refine wpAnyH_ready (rs := [11]) (by kernel_rfl) (by simp) (AllReadyH.cons rfl (fun KQ hKQ => ?_) AllReadyH.nil)
    go_simp
    refine (C2.out _ PP.out).mono ?_
    rintro e w' ⟨rfl, hp⟩
    have QQ := Lib.hid (bt_of H.out PP.out (fun _ => hp))
    have hNext := blk_rt hHeld hp NY.out
    clear hp
    go_wp2_with fail
    refine hKQ.out _ _ hNext (fun hH2 => ?_)
    clear hKQ KQ hHeld hNext
    have hHeld := hH2
    clear hH2
    (try simp only [List.getElem_toArray, List.getElem_cons_succ, List.getElem_cons_zero, Act.put, List.setIfInBounds_toArray, List.set_cons_zero, List.set_cons_succ])
    refine wpAnyH_take (i := 12) (v := ?_) rfl (by kernel_rfl) (by kernel_rfl) (by kernel_rfl) (fun _ _ _ h => h) (Or.inl ⟨by rfl, ?_⟩) hHeld ?_
    rotate_left
    · ((intro w _; go_simp); try with_reducible rfl)
    (try simp only [List.getElem_toArray, List.getElem_cons_succ, List.getElem_cons_zero, Act.put, List.setIfInBounds_toArray, List.set_cons_zero, List.set_cons_succ])
    refine wpAnyH_take (i := 13) (v := ?_) rfl (by kernel_rfl) (by kernel_rfl) (by kernel_rfl) (fun _ _ _ h => h) (Or.inl ⟨by rfl, ?_⟩) hHeld ?_
    rotate_left
    · ((intro w _; go_simp); try with_reducible rfl)
    (try simp only [List.getElem_toArray, List.getElem_cons_succ, List.getElem_cons_zero, Act.put, List.setIfInBounds_toArray, List.set_cons_zero, List.set_cons_succ])
    refine wpAnyH_done (by kernel_rfl) ?_ _
    go_wp2_with fail
    go_ret
    exact ⟨rfl, _, LE.out, QQ.out⟩
  · -- Remove
    have LE := Lib.hid (len_remove s x.a.data.toList)
    have C1 : Hid (∀ z, Below w1.heap.size w1 z → Calls Try.prog 20 #[.pointer (some ⟨d, 0, none⟩), .string x.a] z fun e w' => e = .returned (.int .i64 (removeE s x.a.data.toList)) ∧ Pt z w' d X (removeS s x.a.data.toList)) := Lib.hid (fun z q => Remove_c (H.out.below (bstep B1.out q)).1)
    have C2 : Hid (∀ z, Pt w z d X (removeS s x.a.data.toList) → Calls Try.prog 23 #[.pointer (some ⟨m, 0, none⟩), .string x.a] z fun e w' => e = .returned (.int .i64 (removeE s x.a.data.toList)) ∧ Rt z w' m Y (removeS s x.a.data.toList)) := Lib.hid (fun z q => rRemove_c (by obtain ⟨_, _, _, ht⟩ := q; exact H.out.2.1.tu ht H.out.2.2) (by have := HL.out; omega) HX.out.2.2.2.1)
    go_upto_region 13 with fail
    refine wp_region_held_drew (S := fun w' => Blk w' w.heap.size (avs x (.slice da x.dat.length dc))) (by kernel_rfl) (N1.out.below (brefl w1).drew) (fun hHeld => ?_)
    refine wpAnyH_take (i := 0) (v := ?_) rfl (by kernel_rfl) (by kernel_rfl) (by kernel_rfl) (fun _ _ _ h => h) (Or.inl ⟨by rfl, ?_⟩) hHeld ?_
    rotate_left
    · ((intro w _; go_simp); try with_reducible rfl)
    (try simp only [List.getElem_toArray, List.getElem_cons_succ, List.getElem_cons_zero, Act.put, List.setIfInBounds_toArray, List.set_cons_zero, List.set_cons_succ])
    refine wpAnyH_take (i := 1) (v := ?_) rfl (by kernel_rfl) (by kernel_rfl) (by kernel_rfl) (fun _ _ _ h => h) (Or.inl ⟨by rfl, ?_⟩) hHeld ?_
    rotate_left
    · ((intro w _; go_simp); try with_reducible rfl)
    (try simp only [List.getElem_toArray, List.getElem_cons_succ, List.getElem_cons_zero, Act.put, List.setIfInBounds_toArray, List.set_cons_zero, List.set_cons_succ])
    refine wpAnyH_take (i := 2) (v := ?_) rfl (by kernel_rfl) (by kernel_rfl) (by kernel_rfl) (fun _ _ _ h => h) (Or.inl ⟨by rfl, ?_⟩) hHeld ?_
    rotate_left
    · (intro w hSw; obtain ⟨c0, c1, c2, c3, c4, c5⟩ := avs_at hSw; clear hSw; go_simp; try with_reducible rfl)
    (try simp only [List.getElem_toArray, List.getElem_cons_succ, List.getElem_cons_zero, Act.put, List.setIfInBounds_toArray, List.set_cons_zero, List.set_cons_succ])
    refine wpAnyH_take (i := 4) (v := ?_) rfl (by kernel_rfl) (by kernel_rfl) (by kernel_rfl) (fun _ _ _ h => h) (Or.inl ⟨by rfl, ?_⟩) hHeld ?_
    rotate_left
    · ((intro w _; go_simp); try with_reducible rfl)
    (try simp only [List.getElem_toArray, List.getElem_cons_succ, List.getElem_cons_zero, Act.put, List.setIfInBounds_toArray, List.set_cons_zero, List.set_cons_succ])
    refine wpAnyH_take (i := 5) (v := ?_) rfl (by kernel_rfl) (by kernel_rfl) (by kernel_rfl) (fun _ _ _ h => h) (Or.inl ⟨by rfl, ?_⟩) hHeld ?_
    rotate_left
    · ((intro w _; go_simp); try with_reducible rfl)
    (try simp only [List.getElem_toArray, List.getElem_cons_succ, List.getElem_cons_zero, Act.put, List.setIfInBounds_toArray, List.set_cons_zero, List.set_cons_succ])
    refine wpAnyH_take (i := 6) (v := ?_) rfl (by kernel_rfl) (by kernel_rfl) (by kernel_rfl) (fun _ _ _ h => h) (Or.inl ⟨by rfl, ?_⟩) hHeld ?_
    rotate_left
    · (intro w hSw; obtain ⟨c0, c1, c2, c3, c4, c5⟩ := avs_at hSw; clear hSw; go_simp; try with_reducible rfl)
    (try simp only [List.getElem_toArray, List.getElem_cons_succ, List.getElem_cons_zero, Act.put, List.setIfInBounds_toArray, List.set_cons_zero, List.set_cons_succ])
    refine wpAnyH_ready (rs := [3]) (by kernel_rfl) (by simp) (AllReadyH.cons rfl (fun KQ hKQ => ?_) AllReadyH.nil)
    go_simp
    refine (C1.out _ (brefl w1).drew).mono ?_
    rintro e w' ⟨rfl, hp⟩
    have PP := Lib.hid (Pt.ahead (bstep B1.out (brefl w1).drew) hp)
    have hNext := blk_pt (N1.out.below (brefl w1).drew) hp NX.out
    clear hp
    go_wp2_with fail
    refine hKQ.out _ _ hNext (fun hH2 => ?_)
    clear hKQ KQ hHeld hNext
    have hHeld := hH2
    clear hH2
    (try simp only [List.getElem_toArray, List.getElem_cons_succ, List.getElem_cons_zero, Act.put, List.setIfInBounds_toArray, List.set_cons_zero, List.set_cons_succ])
    refine wpAnyH_ready (rs := [7]) (by kernel_rfl) (by simp) (AllReadyH.cons rfl (fun KQ hKQ => ?_) AllReadyH.nil)
    go_simp
    refine (C2.out _ PP.out).mono ?_
    rintro e w' ⟨rfl, hp⟩
    have QQ := Lib.hid (bt_of H.out PP.out (fun _ => hp))
    have hNext := blk_rt hHeld hp NY.out
    clear hp
    go_wp2_with fail
    refine hKQ.out _ _ hNext (fun hH2 => ?_)
    clear hKQ KQ hHeld hNext
    have hHeld := hH2
    clear hH2
    (try simp only [List.getElem_toArray, List.getElem_cons_succ, List.getElem_cons_zero, Act.put, List.setIfInBounds_toArray, List.set_cons_zero, List.set_cons_succ])
    refine wpAnyH_take (i := 8) (v := ?_) rfl (by kernel_rfl) (by kernel_rfl) (by kernel_rfl) (fun _ _ _ h => h) (Or.inl ⟨by rfl, ?_⟩) hHeld ?_
    rotate_left
    · ((intro w _; go_simp); try with_reducible rfl)
    (try simp only [List.getElem_toArray, List.getElem_cons_succ, List.getElem_cons_zero, Act.put, List.setIfInBounds_toArray, List.set_cons_zero, List.set_cons_succ])
    refine wpAnyH_take (i := 9) (v := ?_) rfl (by kernel_rfl) (by kernel_rfl) (by kernel_rfl) (fun _ _ _ h => h) (Or.inl ⟨by rfl, ?_⟩) hHeld ?_
    rotate_left
    · ((intro w _; go_simp); try with_reducible rfl)
    (try simp only [List.getElem_toArray, List.getElem_cons_succ, List.getElem_cons_zero, Act.put, List.setIfInBounds_toArray, List.set_cons_zero, List.set_cons_succ])
    refine wpAnyH_done (by kernel_rfl) ?_ _
    go_wp2_with fail
    go_ret
    exact ⟨rfl, _, LE.out, QQ.out⟩
  · -- Read
    have R1 := Lib.hid (Read_c (nm := x.a) (H.out.below B1.out).1)
    have c3 := (N1.out.2 3 _ rfl).1
    have RB := Lib.hid (readD_byte H.out.1.1 x.a.data.toList)
    have R2 : Hid (∀ z, Below w1.heap.size w1 z → Calls Try.prog 24 #[.pointer (some ⟨m, 0, none⟩), .string x.a] z fun e w' => e = .returned (.tuple #[.string (bs8 (readD s x.a.data.toList)), .int .i64 (readE s x.a.data.toList)]) ∧ w' = z) := Lib.hid (fun z q => rRead_c (H.out.below (bstep B1.out q)).2.1 (by have := HL.out; omega) HX.out.2.2.2.1)
    generalize readD s x.a.data.toList = dt at *
    generalize readE s x.a.data.toList = er at *
    go_upto_region 15 with fail
    go_wp2_with fail
    refine R1.out.mono ?_
    rintro e w2 ⟨u, rfl, ou, hb2⟩
    have d3 := ((N1.out.below hb2).2 3 _ rfl).1
    have OU := Lib.hid ou
    have B2 := Lib.hid hb2
    obtain ⟨a2, k2, rfl⟩ := own_form ou
    clear R1 c3 ou hb2
    go_wp2_with fail
    refine (R2.out _ B2.out).mono ?_
    rintro e w3 ⟨rfl, hw⟩
    subst hw
    rename World => w2
    have CV := own_str8 OU.out RB.out (brefl w2)
    obtain ⟨n, hn⟩ : ∃ n, dt.length = n := ⟨_, rfl⟩
    have LN := Lib.hid hn
    obtain ⟨g, hg1, hg2, hg3⟩ : ∃ g, w1.heap.size ≤ g ∧ (0 < n → g < w2.heap.size) ∧ (0 < n → (∃ c, Value.slice a2 n k2 = .slice (some ⟨g, 0, none⟩) n c ∧ n ≤ c ∧ c ≤ maxLen) ∧ Wy w2 g n) := by
      by_cases q : 0 < n
      · obtain ⟨g, cp, e1, e2, e3, e4, e5⟩ := wy_own OU.out (by rw [hn]; exact q)
        rw [hn] at e1 e3 e4
        exact ⟨g, e2, fun _ => e3.1, fun _ => ⟨⟨cp, e1, e4, e5⟩, e3⟩⟩
      · exact ⟨w1.heap.size, Nat.le_refl _, fun z => absurd z q, fun z => absurd z q⟩
    have G1 := Lib.hid hg1
    have G3 := Lib.hid hg3
    have n1 : (n : Int) ≤ 9223372036854775807 := by
      by_cases q : 0 < n
      · obtain ⟨⟨cp, _, q2, q3⟩, _⟩ := hg3 q
        unfold maxLen at q3; omega
      · omega
    have n0 : (0 : Int) ≤ (n : Int) := by omega
    rw [hn] at CV ⊢
    generalize bs8 dt = SB at *
    clear R2 OU d3 hg1 hg2 hg3 hn
    go_upto_region 20 with fail
    go_loopw [14] (fun iv wr => ∃ k : Nat, k ≤ n ∧ iv = .int .i64 (k : Nat) ∧ (0 < n → Wy wr g n) ∧ Tu (Td g) w2 wr) (fun iv _ => n - (intOf iv).toNat)
    case atStart => exact ⟨0, Nat.zero_le _, rfl, fun q => (G3.out q).2, Tu.rf _ _⟩
    case round =>
      obtain ⟨k, hk, rfl, hw, ht⟩ := hrel
      rename World => wr
      have HT := Lib.hid ht
      clear ht
      by_cases c : k < n
      · have e1 : decide ((k : Int) < (n : Int)) = true := decide_eq_true (by omega)
        have i1 : (k : Int) < (n : Int) := by omega
        have i0 : (0 : Int) ≤ (k : Int) := by omega
        obtain ⟨⟨cp, q1, q2, q3⟩, _⟩ := G3.out (by omega)
        obtain ⟨rfl, rfl⟩ : a2 = some ⟨g, 0, none⟩ ∧ k2 = cp := by cases q1; exact ⟨rfl, rfl⟩
        have WR := Lib.hid (hw (by omega))
        obtain ⟨y, hy⟩ := ((hw (by omega)).2 k c).1
        have fy := ((hw (by omega)).2 k c).2
        have s1 : (n : Int) ≤ (k2 : Int) := by omega
        have s2 : (k2 : Int) ≤ 9223372036854775807 := by unfold maxLen at q3; omega
        clear hw q2 q3
        go_wp2_with fail
        exact ⟨⟨k + 1, by omega, by go_num, fun _ => WR.out.set k 35, HT.out.tr (tu_set (X := Td g) rfl) (fun _ _ z => z)⟩, by simp [intOf]; omega⟩
      · have e1 : decide ((k : Int) < (n : Int)) = false := decide_eq_false (by omega)
        have BT : Hid (Bt w wr d m X Y s) := Lib.hid (by
          have TW : Tu (Td g) w wr := ((tu_below (X := Td g) (bstep B1.out B2.out)).tr HT.out (fun _ _ z => z))
          have hg : w.heap.size ≤ g := Nat.le_trans B1.out.size G1.out
          exact ⟨X, Y, H.out.tu TW (fun z hz hx => by have z' : z = g := hz; have := H.out.1.2.2.1 z hx; omega) (fun z hz hx => by have z' : z = g := hz; have := H.out.2.1.2.2.1 z hx; omega), fun _ h => .inl h, fun _ h => .inl h, ⟨TW.os, TW.tape, TW.output, TW.size, fun k hk _ => TW.block k hk (fun z => by have z' : k = g := z; omega)⟩⟩)
        clear hw
        go_wp2_with fail
        go_ret
        exact ⟨rfl, _, Nat.le_succ _, BT.out⟩
  · -- Cut
    have LE : Hid ((cutS s x.n x.p).fs.length ≤ s.fs.length + 1) := Lib.hid (by have e : (cutS s x.n x.p).fs = s.fs := (by unfold cutS; split <;> first | rfl | (split <;> rfl)); rw [e]; omega)
    have C1 : Hid (∀ z, Below w1.heap.size w1 z → Calls Try.prog 18 #[.pointer (some ⟨d, 0, none⟩), .int .i64 x.n, .int .i64 x.p] z fun e w' => e = .returned (.int .i64 (cutE x.n)) ∧ Pt z w' d X (cutS s x.n x.p)) := Lib.hid (fun z q => (Cut_c (H.out.below (bstep B1.out q)).1 x.n x.p HX.out.2.1.2 HX.out.2.2.1.1 HX.out.2.2.1.2).mono fun e w' ⟨q1, q2, q3⟩ => ⟨q1, pt_td q2 q3⟩)
    have C2 : Hid (∀ z, Pt w z d X (cutS s x.n x.p) → Calls Try.prog 25 #[.pointer (some ⟨m, 0, none⟩), .int .i64 x.n, .int .i64 x.p] z fun e w' => e = .returned (.int .i64 (cutE x.n)) ∧ Rt z w' m Y (cutS s x.n x.p)) := Lib.hid (fun z q => (rCut_c (by obtain ⟨_, _, _, ht⟩ := q; exact H.out.2.1.tu ht H.out.2.2) x.n x.p HX.out.2.1.2 HX.out.2.2.1.1 HX.out.2.2.1.2).mono fun e w' ⟨q1, q2, q3⟩ => ⟨q1, rt_td q2 q3⟩)
    go_upto_region 25 with fail
    refine wp_region_held_drew (S := fun w' => Blk w' w.heap.size (avs x (.slice da x.dat.length dc))) (by kernel_rfl) (N1.out.below (brefl w1).drew) (fun hHeld => ?_)
    refine wpAnyH_take (i := 0) (v := ?_) rfl (by kernel_rfl) (by kernel_rfl) (by kernel_rfl) (fun _ _ _ h => h) (Or.inl ⟨by rfl, ?_⟩) hHeld ?_
    rotate_left
    · ((intro w _; go_simp); try with_reducible rfl)
    (try simp only [List.getElem_toArray, List.getElem_cons_succ, List.getElem_cons_zero, Act.put, List.setIfInBounds_toArray, List.set_cons_zero, List.set_cons_succ])
    refine wpAnyH_take (i := 1) (v := ?_) rfl (by kernel_rfl) (by kernel_rfl) (by kernel_rfl) (fun _ _ _ h => h) (Or.inl ⟨by rfl, ?_⟩) hHeld ?_
    rotate_left
    · ((intro w _; go_simp); try with_reducible rfl)
    (try simp only [List.getElem_toArray, List.getElem_cons_succ, List.getElem_cons_zero, Act.put, List.setIfInBounds_toArray, List.set_cons_zero, List.set_cons_succ])
    refine wpAnyH_take (i := 2) (v := ?_) rfl (by kernel_rfl) (by kernel_rfl) (by kernel_rfl) (fun _ _ _ h => h) (Or.inl ⟨by rfl, ?_⟩) hHeld ?_
    rotate_left
    · (intro w hSw; obtain ⟨c0, c1, c2, c3, c4, c5⟩ := avs_at hSw; clear hSw; go_simp; try with_reducible rfl)
    (try simp only [List.getElem_toArray, List.getElem_cons_succ, List.getElem_cons_zero, Act.put, List.setIfInBounds_toArray, List.set_cons_zero, List.set_cons_succ])
    refine wpAnyH_take (i := 3) (v := ?_) rfl (by kernel_rfl) (by kernel_rfl) (by kernel_rfl) (fun _ _ _ h => h) (Or.inl ⟨by rfl, ?_⟩) hHeld ?_
    rotate_left
    · ((intro w _; go_simp); try with_reducible rfl)
    (try simp only [List.getElem_toArray, List.getElem_cons_succ, List.getElem_cons_zero, Act.put, List.setIfInBounds_toArray, List.set_cons_zero, List.set_cons_succ])
    refine wpAnyH_take (i := 4) (v := ?_) rfl (by kernel_rfl) (by kernel_rfl) (by kernel_rfl) (fun _ _ _ h => h) (Or.inl ⟨by rfl, ?_⟩) hHeld ?_
    rotate_left
    · (intro w hSw; obtain ⟨c0, c1, c2, c3, c4, c5⟩ := avs_at hSw; clear hSw; go_simp; try with_reducible rfl)
    (try simp only [List.getElem_toArray, List.getElem_cons_succ, List.getElem_cons_zero, Act.put, List.setIfInBounds_toArray, List.set_cons_zero, List.set_cons_succ])
    refine wpAnyH_take (i := 6) (v := ?_) rfl (by kernel_rfl) (by kernel_rfl) (by kernel_rfl) (fun _ _ _ h => h) (Or.inl ⟨by rfl, ?_⟩) hHeld ?_
    rotate_left
    · ((intro w _; go_simp); try with_reducible rfl)
    (try simp only [List.getElem_toArray, List.getElem_cons_succ, List.getElem_cons_zero, Act.put, List.setIfInBounds_toArray, List.set_cons_zero, List.set_cons_succ])
    refine wpAnyH_take (i := 7) (v := ?_) rfl (by kernel_rfl) (by kernel_rfl) (by kernel_rfl) (fun _ _ _ h => h) (Or.inl ⟨by rfl, ?_⟩) hHeld ?_
    rotate_left
    · ((intro w _; go_simp); try with_reducible rfl)
    (try simp only [List.getElem_toArray, List.getElem_cons_succ, List.getElem_cons_zero, Act.put, List.setIfInBounds_toArray, List.set_cons_zero, List.set_cons_succ])
    refine wpAnyH_take (i := 8) (v := ?_) rfl (by kernel_rfl) (by kernel_rfl) (by kernel_rfl) (fun _ _ _ h => h) (Or.inl ⟨by rfl, ?_⟩) hHeld ?_
    rotate_left
    · (intro w hSw; obtain ⟨c0, c1, c2, c3, c4, c5⟩ := avs_at hSw; clear hSw; go_simp; try with_reducible rfl)
    (try simp only [List.getElem_toArray, List.getElem_cons_succ, List.getElem_cons_zero, Act.put, List.setIfInBounds_toArray, List.set_cons_zero, List.set_cons_succ])
    refine wpAnyH_take (i := 9) (v := ?_) rfl (by kernel_rfl) (by kernel_rfl) (by kernel_rfl) (fun _ _ _ h => h) (Or.inl ⟨by rfl, ?_⟩) hHeld ?_
    rotate_left
    · ((intro w _; go_simp); try with_reducible rfl)
    (try simp only [List.getElem_toArray, List.getElem_cons_succ, List.getElem_cons_zero, Act.put, List.setIfInBounds_toArray, List.set_cons_zero, List.set_cons_succ])
    refine wpAnyH_take (i := 10) (v := ?_) rfl (by kernel_rfl) (by kernel_rfl) (by kernel_rfl) (fun _ _ _ h => h) (Or.inl ⟨by rfl, ?_⟩) hHeld ?_
    rotate_left
    · (intro w hSw; obtain ⟨c0, c1, c2, c3, c4, c5⟩ := avs_at hSw; clear hSw; go_simp; try with_reducible rfl)
    (try simp only [List.getElem_toArray, List.getElem_cons_succ, List.getElem_cons_zero, Act.put, List.setIfInBounds_toArray, List.set_cons_zero, List.set_cons_succ])
    refine wpAnyH_ready (rs := [5]) (by kernel_rfl) (by simp) (AllReadyH.cons rfl (fun KQ hKQ => ?_) AllReadyH.nil)
    go_simp
    refine (C1.out _ (brefl w1).drew).mono ?_
    rintro e w' ⟨rfl, hp⟩
    have PP := Lib.hid (Pt.ahead (bstep B1.out (brefl w1).drew) hp)
    have hNext := blk_pt (N1.out.below (brefl w1).drew) hp NX.out
    clear hp
    go_wp2_with fail
    refine hKQ.out _ _ hNext (fun hH2 => ?_)
    clear hKQ KQ hHeld hNext
    have hHeld := hH2
    clear hH2
    (try simp only [List.getElem_toArray, List.getElem_cons_succ, List.getElem_cons_zero, Act.put, List.setIfInBounds_toArray, List.set_cons_zero, List.set_cons_succ])
    refine wpAnyH_ready (rs := [11]) (by kernel_rfl) (by simp) (AllReadyH.cons rfl (fun KQ hKQ => ?_) AllReadyH.nil)
    go_simp
    refine (C2.out _ PP.out).mono ?_
    rintro e w' ⟨rfl, hp⟩
    have QQ := Lib.hid (bt_of H.out PP.out (fun _ => hp))
    have hNext := blk_rt hHeld hp NY.out
    clear hp
    go_wp2_with fail
    refine hKQ.out _ _ hNext (fun hH2 => ?_)
    clear hKQ KQ hHeld hNext
    have hHeld := hH2
    clear hH2
    (try simp only [List.getElem_toArray, List.getElem_cons_succ, List.getElem_cons_zero, Act.put, List.setIfInBounds_toArray, List.set_cons_zero, List.set_cons_succ])
    refine wpAnyH_take (i := 12) (v := ?_) rfl (by kernel_rfl) (by kernel_rfl) (by kernel_rfl) (fun _ _ _ h => h) (Or.inl ⟨by rfl, ?_⟩) hHeld ?_
    rotate_left
    · ((intro w _; go_simp); try with_reducible rfl)
    (try simp only [List.getElem_toArray, List.getElem_cons_succ, List.getElem_cons_zero, Act.put, List.setIfInBounds_toArray, List.set_cons_zero, List.set_cons_succ])
    refine wpAnyH_take (i := 13) (v := ?_) rfl (by kernel_rfl) (by kernel_rfl) (by kernel_rfl) (fun _ _ _ h => h) (Or.inl ⟨by rfl, ?_⟩) hHeld ?_
    rotate_left
    · ((intro w _; go_simp); try with_reducible rfl)
    (try simp only [List.getElem_toArray, List.getElem_cons_succ, List.getElem_cons_zero, Act.put, List.setIfInBounds_toArray, List.set_cons_zero, List.set_cons_succ])
    refine wpAnyH_done (by kernel_rfl) ?_ _
    go_wp2_with fail
    go_ret
    exact ⟨rfl, _, LE.out, QQ.out⟩
  · -- Restart
    have LE : Hid ((restart s).fs.length ≤ s.fs.length + 1) := Lib.hid (Nat.le_succ _)
    have C1 := Lib.hid (Restart_c (H.out.below B1.out).1)
    go_wp2_with fail
    refine C1.out.mono ?_
    rintro e w2 ⟨rfl, q2, q3⟩
    have PP := Lib.hid (Pt.ahead B1.out (pt_td q2 q3))
    have C2 := Lib.hid (rRestart_c (s := s) (X := Y) (by obtain ⟨_, _, _, ht⟩ := PP.out; exact H.out.2.1.tu ht H.out.2.2))
    clear q2 q3 C1
    go_wp2_with fail
    refine C2.out.mono ?_
    rintro e w3 ⟨rfl, q2, q3⟩
    have QQ := Lib.hid (bt_of H.out PP.out (fun _ => rt_td q2 q3))
    clear q2 q3 C2
    go_wp2_with fail
    go_ret
    exact ⟨rfl, _, LE.out, QQ.out⟩
end Go.Proofs.Ytpnphmfpandmkaa.Dk

/-
  DiskTorn: A power cut in a write leaves the file as it was or with a beginning of what was written, and every other file as it was. The law returns true for every input, and the input reads as it did.
  Conditions: none.
-/
import Derived.Test.YtpnphmfpandmkaaRows
import Derived.Test.YtpnphmfpandmkaaDkU
import Derived.SizedLaws
import Derived.Deep.CutBlock
import Derived.Deep.CutRange
import Derived.Lib.SmallJoins
namespace Go.Proofs.Ytpnphmfpandmkaa.diskTorn
open Go.ChangeShapes Go.WideShapes Go.ChangeAt Go.RowKit Go.Joins By Ct Dk
set_option linter.unusedVariables false
set_option linter.unusedSimpArgs false

theorem own : ownKnob Try.prog.godebug = none := by kernel_rfl
theorem laidOut : laidOutB Try.prog = true := by kernel_rfl
theorem str_ne {t s : ByteArray} (k : ¬ t = s) : (t.toList == s.toList) = false := by
  rw [← st_of t, ← st_of s, st_toList, st_toList]
  simp only [beq_eq_false_iff_ne, ne_eq]
  intro q
  exact k (by rw [← st_of t, ← st_of s, q])
theorem nb1 {x : List UInt8} {y : Nat} (hy : y < 256) : ∀ z ∈ nb x ++ [y], z < 256 := by
  intro z hz
  rcases List.mem_append.1 hz with q | q
  · exact nb_byte x z q
  · rw [List.mem_singleton.1 q]; exact hy
theorem own_at {w : World} {base gg gc : Nat} {G : List (List UInt8)} (gl : Nat) (hl : G.length = gl) (h : OwnS w base (.slice (some ⟨gg, 0, none⟩) gl gc) G) {j : Nat} {x : List UInt8} (hx : G[j]? = some x) : w.cell? ⟨gg, j, none⟩ = some (.string (st x)) ∧ gg < w.heap.size := by
  have hj := (List.getElem?_eq_some_iff.1 hx).1
  obtain ⟨g, c, e, _, l, _, _, k⟩ := ownS_at h (by omega)
  cases e
  exact ⟨(k j x hx).1, l⟩
set_option maxRecDepth 100000 in
set_option maxHeartbeats 64000000 in
theorem walk (v0 : Value) (L : List ByteArray) (v1 : Value) (nd : Nat) (f : Nat → Nat) (z2 z3 : Int) (w : World) (F : Sg w v0 L) (A : Arg w v1 nd f) (g2 : (Lit.int .i64 z2).wf = true) (g3 : (Lit.int .i64 z3).wf = true) : Calls Try.prog 5 #[v0, v1, .int .i64 z2, .int .i64 z3] w fun e w' => e = .returned (.bool true) ∧ Below w.heap.size w w' := by
  obtain ⟨va, vc, rfl⟩ := F.form
  have HF := Lib.hid F
  have SB0 := A.sb
  obtain ⟨da, dc, rfl⟩ := SB0.form
  have HSB := Lib.hid SB0
  have HB2 := Lib.hid (bounds_i64 g2)
  have HB3 := Lib.hid (bounds_i64 g3)
  obtain ⟨n, hn⟩ : ∃ n, L.length = n := ⟨_, rfl⟩
  have LN := Lib.hid hn
  have nc : (n : Int) ≤ (vc : Int) := by obtain ⟨_, _, e, h1, _⟩ := F; cases e; omega
  have cm : (vc : Int) ≤ 9223372036854775807 := by obtain ⟨_, _, e, _, h1, _⟩ := F; cases e; omega
  have ncd : (nd : Int) ≤ (dc : Int) := by obtain ⟨_, _, e, h1, _⟩ := SB0; cases e; omega
  have cmd : (dc : Int) ≤ 9223372036854775807 := by obtain ⟨_, _, e, _, h1, _⟩ := SB0; cases e; omega
  have nd0 : (0 : Int) ≤ (nd : Int) := by omega
  have n0 : (0 : Int) ≤ (n : Int) := by omega
  rw [hn]
  clear F hn A SB0 g2 g3
  go_enter Try.func5, Try.ntmps5
  go_wp2_with fail
  refine (awake11_c w).mono ?_
  rintro e w1 ⟨rfl, hb⟩
  have B1 := Lib.hid hb
  clear hb
  go_wp2_with fail
  refine (New_c w1).mono ?_
  rintro e w2 ⟨rfl, hp, hb⟩
  have PH0 : Hid (Ph w w2 (.slice none 0 0) [] w1.heap.size new) := Lib.hid ⟨Td w1.heap.size, hp, fun k q => by have z : k = w1.heap.size := q; have := B1.out.size; omega, OwnS.nil _ _, fun g q => by simp [Value.ownBlock] at q, bstep B1.out hb⟩
  clear hp hb B1
  generalize w1.heap.size = d at *
  go_upto_block 0 with fail
  go_cut [10] from 11 to 54 (fun gv wr => ∃ (s : Dk) (G : List (List UInt8)), Ph w wr gv G d s ∧ Inv s G ∧ G.length ≤ 12 ∧ s.fs.length ≤ 12)
  case first =>
    go_upto_region 6 with fail
    go_loopw [10, 11] (fun gv iv wr => ∃ (k : Nat) (s : Dk) (G : List (List UInt8)), k ≤ n ∧ k ≤ 12 ∧ iv = .int .i64 (k : Nat) ∧ Ph w wr gv G d s ∧ Inv s G ∧ G.length ≤ k ∧ s.fs.length ≤ k) (fun _ iv _ => n - (intOf iv).toNat)
    case atStart => exact ⟨0, new, [], Nat.zero_le _, Nat.zero_le _, rfl, PH0.out, inv_new, Nat.le_refl _, Nat.zero_le _⟩
    case round =>
      clear PH0
      obtain ⟨k, s, G, hk, hk2, rfl, hp, hi, hG, hs⟩ := hrel
      rename World => wr
      have PH := Lib.hid hp
      have IV := Lib.hid hi
      clear hp hi
      by_cases c : k < n
      · have e1 : decide ((k : Int) < (n : Int)) = true := decide_eq_true (by omega)
        by_cases c2 : k < 12
        · have e2 : decide ((k : Int) < 12) = true := decide_eq_true (by omega)
          have i1 : (k : Int) < (n : Int) := by omega
          have i0 : (0 : Int) ≤ (k : Int) := by omega
          obtain ⟨ga, gc, rfl⟩ := ownS_form PH.out.own
          obtain ⟨x0, hx⟩ : ∃ x, L[k]? = some x := ⟨_, List.getElem?_eq_getElem (by rw [LN.out]; exact c)⟩
          obtain ⟨x, rfl⟩ : ∃ x, x0 = st x := ⟨x0.data.toList, (st_of x0).symm⟩
          obtain ⟨b, off, rfl, hbb, hy⟩ := sg_at HF.out hx
          have SZ : Hid ((st x).size ≤ 140737488351232) := Lib.hid (by obtain ⟨_, _, _, _, _, q, _⟩ := HF.out; exact q _ (List.mem_of_getElem? hx))
          have ES : Hid ((nb x).length = (st x).size) := Lib.hid (by rw [nb_len]; show _ = x.toArray.size; simp)
          have XL : Hid (x.length ≤ maxLen) := Lib.hid (by have := ES.out; rw [nb_len] at this; have := SZ.out; unfold maxLen; omega)
          have HBB := Lib.hid hbb
          have HY := Lib.hid hy
          have W8 : IntKind.u8.wrap (k : Int) = (k : Int) := by show (k : Int) % 256 = k; omega
          have CVS := fun z => conv_str z (st x)
          clear hx hbb hy
          cases hok : okN x with
          | false =>
            have ON := Lib.hid hok
            clear hok
            go_upto_region 8 with fail
            refine wp_region_held_drew (S := fun z => Below w.heap.size w z) (by kernel_rfl) (bstep PH.out.bel (brefl wr).drew) (fun hHeld => ?_)
            refine wpAnyH_take (i := 0) (v := ?_) rfl (by kernel_rfl) (by kernel_rfl) (by kernel_rfl) (fun _ _ _ h => h) (Or.inl ⟨by rfl, ?_⟩) hHeld ?_
            rotate_left
            · ((intro w _; go_simp); try with_reducible rfl)
            (try simp only [List.getElem_toArray, List.getElem_cons_succ, List.getElem_cons_zero, Act.put, List.setIfInBounds_toArray, List.set_cons_zero, List.set_cons_succ])
            refine wpAnyH_take (i := 1) (v := ?_) rfl (by kernel_rfl) (by kernel_rfl) (by kernel_rfl) (fun _ _ _ h => h) (Or.inl ⟨by rfl, ?_⟩) hHeld ?_
            rotate_left
            · ((intro w _; go_simp); try with_reducible rfl)
            (try simp only [List.getElem_toArray, List.getElem_cons_succ, List.getElem_cons_zero, Act.put, List.setIfInBounds_toArray, List.set_cons_zero, List.set_cons_succ])
            refine wpAnyH_take (i := 2) (v := ?_) rfl (by kernel_rfl) (by kernel_rfl) (by kernel_rfl) (fun _ _ _ h => h) (Or.inl ⟨by rfl, ?_⟩) hHeld ?_
            rotate_left
            · ((intro w _; go_simp); try with_reducible rfl)
            (try simp only [List.getElem_toArray, List.getElem_cons_succ, List.getElem_cons_zero, Act.put, List.setIfInBounds_toArray, List.set_cons_zero, List.set_cons_succ])
            refine wpAnyH_take (i := 3) (v := ?_) rfl (by kernel_rfl) (by kernel_rfl) (by kernel_rfl) (fun _ _ _ h => h) (Or.inl ⟨by rfl, ?_⟩) hHeld ?_
            rotate_left
            · ((intro w _; go_simp); try with_reducible rfl)
            (try simp only [List.getElem_toArray, List.getElem_cons_succ, List.getElem_cons_zero, Act.put, List.setIfInBounds_toArray, List.set_cons_zero, List.set_cons_succ])
            refine wpAnyH_take (i := 4) (v := ?_) rfl (by kernel_rfl) (by kernel_rfl) (by kernel_rfl) (fun _ _ _ h => h) (Or.inl ⟨by rfl, ?_⟩) hHeld ?_
            rotate_left
            · (intro z hSw; have z1 := (hSw.cell (p := ⟨b, off + k, none⟩) HBB.out).trans HY.out; go_simp; try with_reducible rfl)
            (try simp only [List.getElem_toArray, List.getElem_cons_succ, List.getElem_cons_zero, Act.put, List.setIfInBounds_toArray, List.set_cons_zero, List.set_cons_succ])
            refine wpAnyH_take (i := 5) (v := ?_) rfl (by kernel_rfl) (by kernel_rfl) (by kernel_rfl) (fun _ _ _ h => h) (Or.inl ⟨by rfl, ?_⟩) hHeld ?_
            rotate_left
            · ((intro w _; go_simp); try with_reducible rfl)
            (try simp only [List.getElem_toArray, List.getElem_cons_succ, List.getElem_cons_zero, Act.put, List.setIfInBounds_toArray, List.set_cons_zero, List.set_cons_succ])
            refine wpAnyH_take (i := 6) (v := ?_) rfl (by kernel_rfl) (by kernel_rfl) (by kernel_rfl) (fun _ _ _ h => h) (Or.inl ⟨by rfl, ?_⟩) hHeld ?_
            rotate_left
            · ((intro w _; go_simp); try with_reducible rfl)
            (try simp only [List.getElem_toArray, List.getElem_cons_succ, List.getElem_cons_zero, Act.put, List.setIfInBounds_toArray, List.set_cons_zero, List.set_cons_succ])
            refine wpAnyH_take (i := 7) (v := ?_) rfl (by kernel_rfl) (by kernel_rfl) (by kernel_rfl) (fun _ _ _ h => h) (Or.inl ⟨by rfl, ?_⟩) hHeld ?_
            rotate_left
            · ((intro w _; go_simp); try with_reducible rfl)
            (try simp only [List.getElem_toArray, List.getElem_cons_succ, List.getElem_cons_zero, Act.put, List.setIfInBounds_toArray, List.set_cons_zero, List.set_cons_succ])
            refine wpAnyH_take (i := 8) (v := ?_) rfl (by kernel_rfl) (by kernel_rfl) (by kernel_rfl) (fun _ _ _ h => h) (Or.inl ⟨by rfl, ?_⟩) hHeld ?_
            rotate_left
            · (intro z hSw; have z1 := (hSw.cell (p := ⟨b, off + k, none⟩) HBB.out).trans HY.out; go_simp; try with_reducible rfl)
            (try simp only [List.getElem_toArray, List.getElem_cons_succ, List.getElem_cons_zero, Act.put, List.setIfInBounds_toArray, List.set_cons_zero, List.set_cons_succ])
            refine wpAnyH_take (i := 10) (v := ?_) rfl (by kernel_rfl) (by kernel_rfl) (by kernel_rfl) (fun _ _ _ h => h) (Or.inl ⟨by rfl, ?_⟩) hHeld ?_
            rotate_left
            · ((intro w _; go_simp); try with_reducible rfl)
            (try simp only [List.getElem_toArray, List.getElem_cons_succ, List.getElem_cons_zero, Act.put, List.setIfInBounds_toArray, List.set_cons_zero, List.set_cons_succ])
            refine wpAnyH_take (i := 11) (v := ?_) rfl (by kernel_rfl) (by kernel_rfl) (by kernel_rfl) (fun _ _ _ h => h) (Or.inl ⟨by rfl, ?_⟩) hHeld ?_
            rotate_left
            · ((intro w _; go_simp); try with_reducible rfl)
            (try simp only [List.getElem_toArray, List.getElem_cons_succ, List.getElem_cons_zero, Act.put, List.setIfInBounds_toArray, List.set_cons_zero, List.set_cons_succ])
            have BD := Lib.hid ((brefl wr).drew)
            generalize wr.drew = wd at *
            refine wpAnyH_ready (rs := [9, 12]) (by kernel_rfl) (by simp) (AllReadyH.cons rfl (fun KQ hKQ => ?_) (AllReadyH.cons rfl (fun KQ hKQ => ?_) AllReadyH.nil))
            · go_simp
              refine hKQ.out _ _ (bstep hHeld (conv_below wd (st x))) (fun hH2 => ?_)
              clear hKQ KQ hHeld
              have hHeld := hH2
              clear hH2
              (try simp only [List.getElem_toArray, List.getElem_cons_succ, List.getElem_cons_zero, Act.put, List.setIfInBounds_toArray, List.set_cons_zero, List.set_cons_succ])
              refine wpAnyH_ready (rs := [12]) (by kernel_rfl) (by simp) (AllReadyH.cons rfl (fun KQ hKQ => ?_) AllReadyH.nil)
              go_simp
              refine hKQ.out _ _ (balloc hHeld _) (fun hH2 => ?_)
              clear hKQ KQ hHeld
              have hHeld := hH2
              clear hH2
              (try simp only [List.getElem_toArray, List.getElem_cons_succ, List.getElem_cons_zero, Act.put, List.setIfInBounds_toArray, List.set_cons_zero, List.set_cons_succ])
              have G1 : Hid (wr.heap.size ≤ wd.heap.size) := Lib.hid (by exact BD.out.size)
              have G2 : Hid (Cw ((Lib.bytesWorld wd 5 (st x)).alloc (.cells #[.int .u8 (k : Int)] 5)) (wd.heap.size) (grownCap wd (st x).size 0 5) (nb x)) := Lib.hid ((cw_conv wd x XL.out).keep ((balloc (brefl (Lib.bytesWorld wd 5 (st x))) (.cells #[.int .u8 (k : Int)] 5)).block _ (cw_conv wd x XL.out).2.2.1) (balloc (brefl (Lib.bytesWorld wd 5 (st x))) (.cells #[.int .u8 (k : Int)] 5)).size)
              have G3 : Hid (((Lib.bytesWorld wd 5 (st x)).alloc (.cells #[.int .u8 (k : Int)] 5)).cell? ⟨(Lib.bytesWorld wd 5 (st x)).heap.size, 0, none⟩ = some (.int .u8 (k : Nat))) := Lib.hid (((Blk.new' (Lib.bytesWorld wd 5 (st x)) #[.int .u8 (k : Int)] 5).2 0 _ rfl).1)
              have HZ : Hid (Below wr.heap.size wr ((Lib.bytesWorld wd 5 (st x)).alloc (.cells #[.int .u8 (k : Int)] 5))) := Lib.hid (bstep BD.out (balloc (conv_below wd (st x)) _))
              generalize (Lib.bytesWorld wd 5 (st x)).alloc (.cells #[.int .u8 (k : Int)] 5) = zz at *
              generalize grownCap wd (st x).size 0 5 = cb at *
              generalize wd.heap.size = gb at *
              generalize (Lib.bytesWorld wd 5 (st x)).heap.size = bb at *
              obtain ⟨va, wa, ra, ⟨aa, ac, rfl⟩, rs, rt, rb⟩ := app1 G2.out (nb_byte x) (y := k) (by omega) G3.out (by rw [ES.out]; have := SZ.out; omega) 29
              rw [ES.out] at ra rs rb
              have RA := Lib.hid ra
              have RS := Lib.hid rs
              have RB := Lib.hid rb
              have BA : Hid (Below wr.heap.size wr wa) := Lib.hid (HZ.out.trans (rt.below (fun i hi => by rw [show i = gb from hi]; exact G1.out) HZ.out.size))
              clear ra rs rt rb
              refine wpAnyH_ready (rs := [13]) (by kernel_rfl) (by simp) (AllReadyH.cons rfl (fun KQ hKQ => ?_) AllReadyH.nil)
              refine step_append_eq rfl (.tmp 41) (.tmp 44) 29 rfl _ _ (.slice aa ((st x).size + 1) ac) wa rfl rfl RA.out ?_
              refine hKQ.out _ _ (bstep PH.out.bel BA.out) (fun hH2 => ?_)
              clear hKQ KQ hHeld
              have hHeld := hH2
              clear hH2
              (try simp only [List.getElem_toArray, List.getElem_cons_succ, List.getElem_cons_zero, Act.put, List.setIfInBounds_toArray, List.set_cons_zero, List.set_cons_succ])
              have WX := Write_pb (nm := st x) (va := aa) (n := (st x).size + 1) (cap := ac) (PH.out.below BA.out) IV.out.1 ON.out
              refine wpAnyH_ready (rs := [14]) (by kernel_rfl) (by simp) (AllReadyH.cons rfl (fun KQ hKQ => ?_) AllReadyH.nil)
              go_simp
              refine WX.mono ?_
              rintro e wb ⟨rfl, hp, hsz⟩
              have PB := Lib.hid hp
              clear hp WX hsz
              go_wp2_with fail
              refine hKQ.out _ _ PB.out.bel (fun hH2 => ?_)
              clear hKQ KQ hHeld
              have hHeld := hH2
              clear hH2
              (try simp only [List.getElem_toArray, List.getElem_cons_succ, List.getElem_cons_zero, Act.put, List.setIfInBounds_toArray, List.set_cons_zero, List.set_cons_succ])
              refine wpAnyH_take (i := 15) (v := ?_) rfl (by kernel_rfl) (by kernel_rfl) (by kernel_rfl) (fun _ _ _ h => h) (Or.inl ⟨by rfl, ?_⟩) hHeld ?_
              rotate_left
              · ((intro w _; go_simp); try with_reducible rfl)
              (try simp only [List.getElem_toArray, List.getElem_cons_succ, List.getElem_cons_zero, Act.put, List.setIfInBounds_toArray, List.set_cons_zero, List.set_cons_succ])
              refine wpAnyH_done (by kernel_rfl) ?_ _
              go_wp2_with fail
              exact ⟨⟨k + 1, s, G, by omega, by omega, by go_num, PB.out, IV.out, by omega, by omega⟩, by simp [intOf]; omega⟩
            · go_simp
              refine hKQ.out _ _ (balloc hHeld _) (fun hH2 => ?_)
              clear hKQ KQ hHeld
              have hHeld := hH2
              clear hH2
              (try simp only [List.getElem_toArray, List.getElem_cons_succ, List.getElem_cons_zero, Act.put, List.setIfInBounds_toArray, List.set_cons_zero, List.set_cons_succ])
              refine wpAnyH_ready (rs := [9]) (by kernel_rfl) (by simp) (AllReadyH.cons rfl (fun KQ hKQ => ?_) AllReadyH.nil)
              go_simp
              refine hKQ.out _ _ (bstep hHeld (conv_below (wd.alloc (.cells #[.int .u8 (k : Int)] 5)) (st x))) (fun hH2 => ?_)
              clear hKQ KQ hHeld
              have hHeld := hH2
              clear hH2
              (try simp only [List.getElem_toArray, List.getElem_cons_succ, List.getElem_cons_zero, Act.put, List.setIfInBounds_toArray, List.set_cons_zero, List.set_cons_succ])
              have G1 : Hid (wr.heap.size ≤ wd.heap.size + 1) := Lib.hid (by exact Nat.le_succ_of_le BD.out.size)
              have G2 : Hid (Cw (Lib.bytesWorld (wd.alloc (.cells #[.int .u8 (k : Int)] 5)) 5 (st x)) (wd.heap.size + 1) (grownCap (wd.alloc (.cells #[.int .u8 (k : Int)] 5)) (st x).size 0 5) (nb x)) := Lib.hid (by have q := cw_conv (wd.alloc (.cells #[.int .u8 (k : Int)] 5)) x XL.out; rw [show (wd.alloc (.cells #[.int .u8 (k : Int)] 5)).heap.size = wd.heap.size + 1 from by simp] at q; exact q)
              have G3 : Hid ((Lib.bytesWorld (wd.alloc (.cells #[.int .u8 (k : Int)] 5)) 5 (st x)).cell? ⟨wd.heap.size, 0, none⟩ = some (.int .u8 (k : Nat))) := Lib.hid (((conv_below (wd.alloc (.cells #[.int .u8 (k : Int)] 5)) (st x)).cell (p := ⟨wd.heap.size, 0, none⟩) (Blk.new' wd #[.int .u8 (k : Int)] 5).1).trans ((Blk.new' wd #[.int .u8 (k : Int)] 5).2 0 _ rfl).1)
              have HZ : Hid (Below wr.heap.size wr (Lib.bytesWorld (wd.alloc (.cells #[.int .u8 (k : Int)] 5)) 5 (st x))) := Lib.hid (bstep BD.out (bstep (balloc (brefl wd) (.cells #[.int .u8 (k : Int)] 5)) (conv_below (wd.alloc (.cells #[.int .u8 (k : Int)] 5)) (st x))))
              generalize Lib.bytesWorld (wd.alloc (.cells #[.int .u8 (k : Int)] 5)) 5 (st x) = zz at *
              generalize grownCap (wd.alloc (.cells #[.int .u8 (k : Int)] 5)) (st x).size 0 5 = cb at *
              generalize wd.heap.size + 1 = gb at *
              generalize wd.heap.size = bb at *
              obtain ⟨va, wa, ra, ⟨aa, ac, rfl⟩, rs, rt, rb⟩ := app1 G2.out (nb_byte x) (y := k) (by omega) G3.out (by rw [ES.out]; have := SZ.out; omega) 29
              rw [ES.out] at ra rs rb
              have RA := Lib.hid ra
              have RS := Lib.hid rs
              have RB := Lib.hid rb
              have BA : Hid (Below wr.heap.size wr wa) := Lib.hid (HZ.out.trans (rt.below (fun i hi => by rw [show i = gb from hi]; exact G1.out) HZ.out.size))
              clear ra rs rt rb
              refine wpAnyH_ready (rs := [13]) (by kernel_rfl) (by simp) (AllReadyH.cons rfl (fun KQ hKQ => ?_) AllReadyH.nil)
              refine step_append_eq rfl (.tmp 41) (.tmp 44) 29 rfl _ _ (.slice aa ((st x).size + 1) ac) wa rfl rfl RA.out ?_
              refine hKQ.out _ _ (bstep PH.out.bel BA.out) (fun hH2 => ?_)
              clear hKQ KQ hHeld
              have hHeld := hH2
              clear hH2
              (try simp only [List.getElem_toArray, List.getElem_cons_succ, List.getElem_cons_zero, Act.put, List.setIfInBounds_toArray, List.set_cons_zero, List.set_cons_succ])
              have WX := Write_pb (nm := st x) (va := aa) (n := (st x).size + 1) (cap := ac) (PH.out.below BA.out) IV.out.1 ON.out
              refine wpAnyH_ready (rs := [14]) (by kernel_rfl) (by simp) (AllReadyH.cons rfl (fun KQ hKQ => ?_) AllReadyH.nil)
              go_simp
              refine WX.mono ?_
              rintro e wb ⟨rfl, hp, hsz⟩
              have PB := Lib.hid hp
              clear hp WX hsz
              go_wp2_with fail
              refine hKQ.out _ _ PB.out.bel (fun hH2 => ?_)
              clear hKQ KQ hHeld
              have hHeld := hH2
              clear hH2
              (try simp only [List.getElem_toArray, List.getElem_cons_succ, List.getElem_cons_zero, Act.put, List.setIfInBounds_toArray, List.set_cons_zero, List.set_cons_succ])
              refine wpAnyH_take (i := 15) (v := ?_) rfl (by kernel_rfl) (by kernel_rfl) (by kernel_rfl) (fun _ _ _ h => h) (Or.inl ⟨by rfl, ?_⟩) hHeld ?_
              rotate_left
              · ((intro w _; go_simp); try with_reducible rfl)
              (try simp only [List.getElem_toArray, List.getElem_cons_succ, List.getElem_cons_zero, Act.put, List.setIfInBounds_toArray, List.set_cons_zero, List.set_cons_succ])
              refine wpAnyH_done (by kernel_rfl) ?_ _
              go_wp2_with fail
              exact ⟨⟨k + 1, s, G, by omega, by omega, by go_num, PB.out, IV.out, by omega, by omega⟩, by simp [intOf]; omega⟩
          | true =>
            have ON := Lib.hid hok
            clear hok
            go_upto_region 8 with fail
            refine wp_region_held_drew (S := fun z => Below w.heap.size w z) (by kernel_rfl) (bstep PH.out.bel (brefl wr).drew) (fun hHeld => ?_)
            refine wpAnyH_take (i := 0) (v := ?_) rfl (by kernel_rfl) (by kernel_rfl) (by kernel_rfl) (fun _ _ _ h => h) (Or.inl ⟨by rfl, ?_⟩) hHeld ?_
            rotate_left
            · ((intro w _; go_simp); try with_reducible rfl)
            (try simp only [List.getElem_toArray, List.getElem_cons_succ, List.getElem_cons_zero, Act.put, List.setIfInBounds_toArray, List.set_cons_zero, List.set_cons_succ])
            refine wpAnyH_take (i := 1) (v := ?_) rfl (by kernel_rfl) (by kernel_rfl) (by kernel_rfl) (fun _ _ _ h => h) (Or.inl ⟨by rfl, ?_⟩) hHeld ?_
            rotate_left
            · ((intro w _; go_simp); try with_reducible rfl)
            (try simp only [List.getElem_toArray, List.getElem_cons_succ, List.getElem_cons_zero, Act.put, List.setIfInBounds_toArray, List.set_cons_zero, List.set_cons_succ])
            refine wpAnyH_take (i := 2) (v := ?_) rfl (by kernel_rfl) (by kernel_rfl) (by kernel_rfl) (fun _ _ _ h => h) (Or.inl ⟨by rfl, ?_⟩) hHeld ?_
            rotate_left
            · ((intro w _; go_simp); try with_reducible rfl)
            (try simp only [List.getElem_toArray, List.getElem_cons_succ, List.getElem_cons_zero, Act.put, List.setIfInBounds_toArray, List.set_cons_zero, List.set_cons_succ])
            refine wpAnyH_take (i := 3) (v := ?_) rfl (by kernel_rfl) (by kernel_rfl) (by kernel_rfl) (fun _ _ _ h => h) (Or.inl ⟨by rfl, ?_⟩) hHeld ?_
            rotate_left
            · ((intro w _; go_simp); try with_reducible rfl)
            (try simp only [List.getElem_toArray, List.getElem_cons_succ, List.getElem_cons_zero, Act.put, List.setIfInBounds_toArray, List.set_cons_zero, List.set_cons_succ])
            refine wpAnyH_take (i := 4) (v := ?_) rfl (by kernel_rfl) (by kernel_rfl) (by kernel_rfl) (fun _ _ _ h => h) (Or.inl ⟨by rfl, ?_⟩) hHeld ?_
            rotate_left
            · (intro z hSw; have z1 := (hSw.cell (p := ⟨b, off + k, none⟩) HBB.out).trans HY.out; go_simp; try with_reducible rfl)
            (try simp only [List.getElem_toArray, List.getElem_cons_succ, List.getElem_cons_zero, Act.put, List.setIfInBounds_toArray, List.set_cons_zero, List.set_cons_succ])
            refine wpAnyH_take (i := 5) (v := ?_) rfl (by kernel_rfl) (by kernel_rfl) (by kernel_rfl) (fun _ _ _ h => h) (Or.inl ⟨by rfl, ?_⟩) hHeld ?_
            rotate_left
            · ((intro w _; go_simp); try with_reducible rfl)
            (try simp only [List.getElem_toArray, List.getElem_cons_succ, List.getElem_cons_zero, Act.put, List.setIfInBounds_toArray, List.set_cons_zero, List.set_cons_succ])
            refine wpAnyH_take (i := 6) (v := ?_) rfl (by kernel_rfl) (by kernel_rfl) (by kernel_rfl) (fun _ _ _ h => h) (Or.inl ⟨by rfl, ?_⟩) hHeld ?_
            rotate_left
            · ((intro w _; go_simp); try with_reducible rfl)
            (try simp only [List.getElem_toArray, List.getElem_cons_succ, List.getElem_cons_zero, Act.put, List.setIfInBounds_toArray, List.set_cons_zero, List.set_cons_succ])
            refine wpAnyH_take (i := 7) (v := ?_) rfl (by kernel_rfl) (by kernel_rfl) (by kernel_rfl) (fun _ _ _ h => h) (Or.inl ⟨by rfl, ?_⟩) hHeld ?_
            rotate_left
            · ((intro w _; go_simp); try with_reducible rfl)
            (try simp only [List.getElem_toArray, List.getElem_cons_succ, List.getElem_cons_zero, Act.put, List.setIfInBounds_toArray, List.set_cons_zero, List.set_cons_succ])
            refine wpAnyH_take (i := 8) (v := ?_) rfl (by kernel_rfl) (by kernel_rfl) (by kernel_rfl) (fun _ _ _ h => h) (Or.inl ⟨by rfl, ?_⟩) hHeld ?_
            rotate_left
            · (intro z hSw; have z1 := (hSw.cell (p := ⟨b, off + k, none⟩) HBB.out).trans HY.out; go_simp; try with_reducible rfl)
            (try simp only [List.getElem_toArray, List.getElem_cons_succ, List.getElem_cons_zero, Act.put, List.setIfInBounds_toArray, List.set_cons_zero, List.set_cons_succ])
            refine wpAnyH_take (i := 10) (v := ?_) rfl (by kernel_rfl) (by kernel_rfl) (by kernel_rfl) (fun _ _ _ h => h) (Or.inl ⟨by rfl, ?_⟩) hHeld ?_
            rotate_left
            · ((intro w _; go_simp); try with_reducible rfl)
            (try simp only [List.getElem_toArray, List.getElem_cons_succ, List.getElem_cons_zero, Act.put, List.setIfInBounds_toArray, List.set_cons_zero, List.set_cons_succ])
            refine wpAnyH_take (i := 11) (v := ?_) rfl (by kernel_rfl) (by kernel_rfl) (by kernel_rfl) (fun _ _ _ h => h) (Or.inl ⟨by rfl, ?_⟩) hHeld ?_
            rotate_left
            · ((intro w _; go_simp); try with_reducible rfl)
            (try simp only [List.getElem_toArray, List.getElem_cons_succ, List.getElem_cons_zero, Act.put, List.setIfInBounds_toArray, List.set_cons_zero, List.set_cons_succ])
            have BD := Lib.hid ((brefl wr).drew)
            generalize wr.drew = wd at *
            refine wpAnyH_ready (rs := [9, 12]) (by kernel_rfl) (by simp) (AllReadyH.cons rfl (fun KQ hKQ => ?_) (AllReadyH.cons rfl (fun KQ hKQ => ?_) AllReadyH.nil))
            · go_simp
              refine hKQ.out _ _ (bstep hHeld (conv_below wd (st x))) (fun hH2 => ?_)
              clear hKQ KQ hHeld
              have hHeld := hH2
              clear hH2
              (try simp only [List.getElem_toArray, List.getElem_cons_succ, List.getElem_cons_zero, Act.put, List.setIfInBounds_toArray, List.set_cons_zero, List.set_cons_succ])
              refine wpAnyH_ready (rs := [12]) (by kernel_rfl) (by simp) (AllReadyH.cons rfl (fun KQ hKQ => ?_) AllReadyH.nil)
              go_simp
              refine hKQ.out _ _ (balloc hHeld _) (fun hH2 => ?_)
              clear hKQ KQ hHeld
              have hHeld := hH2
              clear hH2
              (try simp only [List.getElem_toArray, List.getElem_cons_succ, List.getElem_cons_zero, Act.put, List.setIfInBounds_toArray, List.set_cons_zero, List.set_cons_succ])
              have G1 : Hid (wr.heap.size ≤ wd.heap.size) := Lib.hid (by exact BD.out.size)
              have G2 : Hid (Cw ((Lib.bytesWorld wd 5 (st x)).alloc (.cells #[.int .u8 (k : Int)] 5)) (wd.heap.size) (grownCap wd (st x).size 0 5) (nb x)) := Lib.hid ((cw_conv wd x XL.out).keep ((balloc (brefl (Lib.bytesWorld wd 5 (st x))) (.cells #[.int .u8 (k : Int)] 5)).block _ (cw_conv wd x XL.out).2.2.1) (balloc (brefl (Lib.bytesWorld wd 5 (st x))) (.cells #[.int .u8 (k : Int)] 5)).size)
              have G3 : Hid (((Lib.bytesWorld wd 5 (st x)).alloc (.cells #[.int .u8 (k : Int)] 5)).cell? ⟨(Lib.bytesWorld wd 5 (st x)).heap.size, 0, none⟩ = some (.int .u8 (k : Nat))) := Lib.hid (((Blk.new' (Lib.bytesWorld wd 5 (st x)) #[.int .u8 (k : Int)] 5).2 0 _ rfl).1)
              have HZ : Hid (Below wr.heap.size wr ((Lib.bytesWorld wd 5 (st x)).alloc (.cells #[.int .u8 (k : Int)] 5))) := Lib.hid (bstep BD.out (balloc (conv_below wd (st x)) _))
              generalize (Lib.bytesWorld wd 5 (st x)).alloc (.cells #[.int .u8 (k : Int)] 5) = zz at *
              generalize grownCap wd (st x).size 0 5 = cb at *
              generalize wd.heap.size = gb at *
              generalize (Lib.bytesWorld wd 5 (st x)).heap.size = bb at *
              obtain ⟨va, wa, ra, ⟨aa, ac, rfl⟩, rs, rt, rb⟩ := app1 G2.out (nb_byte x) (y := k) (by omega) G3.out (by rw [ES.out]; have := SZ.out; omega) 29
              rw [ES.out] at ra rs rb
              have RA := Lib.hid ra
              have RS := Lib.hid rs
              have RB := Lib.hid rb
              have BA : Hid (Below wr.heap.size wr wa) := Lib.hid (HZ.out.trans (rt.below (fun i hi => by rw [show i = gb from hi]; exact G1.out) HZ.out.size))
              clear ra rs rt rb
              refine wpAnyH_ready (rs := [13]) (by kernel_rfl) (by simp) (AllReadyH.cons rfl (fun KQ hKQ => ?_) AllReadyH.nil)
              refine step_append_eq rfl (.tmp 41) (.tmp 44) 29 rfl _ _ (.slice aa ((st x).size + 1) ac) wa rfl rfl RA.out ?_
              refine hKQ.out _ _ (bstep PH.out.bel BA.out) (fun hH2 => ?_)
              clear hKQ KQ hHeld
              have hHeld := hH2
              clear hH2
              (try simp only [List.getElem_toArray, List.getElem_cons_succ, List.getElem_cons_zero, Act.put, List.setIfInBounds_toArray, List.set_cons_zero, List.set_cons_succ])
              have WX := Write_p (nm := st x) (v := .slice aa ((st x).size + 1) ac) (l := nb x ++ [k]) (PH.out.below BA.out) (by omega) (RS.out (by have := (okN_le ON.out).2; have := ES.out; rw [nb_len] at this; omega)) (fun _ q => by have := PH.out.lt.1; have := RB.out d q; have := HZ.out.size; have := G1.out; omega)
              rw [show (st x).data.toList = x from rfl, (inv_ok IV.out ON.out (y := k) (by omega)).1] at WX
              refine wpAnyH_ready (rs := [14]) (by kernel_rfl) (by simp) (AllReadyH.cons rfl (fun KQ hKQ => ?_) AllReadyH.nil)
              go_simp
              refine WX.mono ?_
              rintro e wb ⟨rfl, hp, hsz⟩
              have PB := Lib.hid hp
              clear hp WX hsz
              go_wp2_with fail
              refine hKQ.out _ _ PB.out.bel (fun hH2 => ?_)
              clear hKQ KQ hHeld
              have hHeld := hH2
              clear hH2
              (try simp only [List.getElem_toArray, List.getElem_cons_succ, List.getElem_cons_zero, Act.put, List.setIfInBounds_toArray, List.set_cons_zero, List.set_cons_succ])
              refine wpAnyH_take (i := 15) (v := ?_) rfl (by kernel_rfl) (by kernel_rfl) (by kernel_rfl) (fun _ _ _ h => h) (Or.inl ⟨by rfl, ?_⟩) hHeld ?_
              rotate_left
              · ((intro w _; go_simp); try with_reducible rfl)
              (try simp only [List.getElem_toArray, List.getElem_cons_succ, List.getElem_cons_zero, Act.put, List.setIfInBounds_toArray, List.set_cons_zero, List.set_cons_succ])
              refine wpAnyH_done (by kernel_rfl) ?_ _
              have yb := (PB.out.bel.cell (p := ⟨b, off + k, none⟩) HBB.out).trans HY.out
              obtain ⟨v9, w9, r9, p9⟩ := ph_app PB.out x (by omega) 41
              obtain ⟨a9, c9, rfl⟩ := ownS_form p9.own
              have P9 : Hid (Ph w w9 (.slice a9 (G.length + 1) c9) (G ++ [x]) d (writeS s x (nb x ++ [k]))) := Lib.hid (by have q := p9; rw [show (G ++ [x]).length = G.length + 1 from by simp] at q; exact q)
              clear p9
              go_wp2_with (first | (at_builtin; refine wpList_append_eq rfl _ _ 41 rfl _ _ _ w9 rfl rfl r9 ?_))
              exact ⟨⟨k + 1, writeS s x (nb x ++ [k]), G ++ [x], by omega, by omega, by go_num, P9.out, (inv_ok IV.out ON.out (y := k) (by omega)).2, by rw [List.length_append]; simp; omega, by have := len_writeS s x (nb x ++ [k]); omega⟩, by simp [intOf]; omega⟩
            · go_simp
              refine hKQ.out _ _ (balloc hHeld _) (fun hH2 => ?_)
              clear hKQ KQ hHeld
              have hHeld := hH2
              clear hH2
              (try simp only [List.getElem_toArray, List.getElem_cons_succ, List.getElem_cons_zero, Act.put, List.setIfInBounds_toArray, List.set_cons_zero, List.set_cons_succ])
              refine wpAnyH_ready (rs := [9]) (by kernel_rfl) (by simp) (AllReadyH.cons rfl (fun KQ hKQ => ?_) AllReadyH.nil)
              go_simp
              refine hKQ.out _ _ (bstep hHeld (conv_below (wd.alloc (.cells #[.int .u8 (k : Int)] 5)) (st x))) (fun hH2 => ?_)
              clear hKQ KQ hHeld
              have hHeld := hH2
              clear hH2
              (try simp only [List.getElem_toArray, List.getElem_cons_succ, List.getElem_cons_zero, Act.put, List.setIfInBounds_toArray, List.set_cons_zero, List.set_cons_succ])
              have G1 : Hid (wr.heap.size ≤ wd.heap.size + 1) := Lib.hid (by exact Nat.le_succ_of_le BD.out.size)
              have G2 : Hid (Cw (Lib.bytesWorld (wd.alloc (.cells #[.int .u8 (k : Int)] 5)) 5 (st x)) (wd.heap.size + 1) (grownCap (wd.alloc (.cells #[.int .u8 (k : Int)] 5)) (st x).size 0 5) (nb x)) := Lib.hid (by have q := cw_conv (wd.alloc (.cells #[.int .u8 (k : Int)] 5)) x XL.out; rw [show (wd.alloc (.cells #[.int .u8 (k : Int)] 5)).heap.size = wd.heap.size + 1 from by simp] at q; exact q)
              have G3 : Hid ((Lib.bytesWorld (wd.alloc (.cells #[.int .u8 (k : Int)] 5)) 5 (st x)).cell? ⟨wd.heap.size, 0, none⟩ = some (.int .u8 (k : Nat))) := Lib.hid (((conv_below (wd.alloc (.cells #[.int .u8 (k : Int)] 5)) (st x)).cell (p := ⟨wd.heap.size, 0, none⟩) (Blk.new' wd #[.int .u8 (k : Int)] 5).1).trans ((Blk.new' wd #[.int .u8 (k : Int)] 5).2 0 _ rfl).1)
              have HZ : Hid (Below wr.heap.size wr (Lib.bytesWorld (wd.alloc (.cells #[.int .u8 (k : Int)] 5)) 5 (st x))) := Lib.hid (bstep BD.out (bstep (balloc (brefl wd) (.cells #[.int .u8 (k : Int)] 5)) (conv_below (wd.alloc (.cells #[.int .u8 (k : Int)] 5)) (st x))))
              generalize Lib.bytesWorld (wd.alloc (.cells #[.int .u8 (k : Int)] 5)) 5 (st x) = zz at *
              generalize grownCap (wd.alloc (.cells #[.int .u8 (k : Int)] 5)) (st x).size 0 5 = cb at *
              generalize wd.heap.size + 1 = gb at *
              generalize wd.heap.size = bb at *
              obtain ⟨va, wa, ra, ⟨aa, ac, rfl⟩, rs, rt, rb⟩ := app1 G2.out (nb_byte x) (y := k) (by omega) G3.out (by rw [ES.out]; have := SZ.out; omega) 29
              rw [ES.out] at ra rs rb
              have RA := Lib.hid ra
              have RS := Lib.hid rs
              have RB := Lib.hid rb
              have BA : Hid (Below wr.heap.size wr wa) := Lib.hid (HZ.out.trans (rt.below (fun i hi => by rw [show i = gb from hi]; exact G1.out) HZ.out.size))
              clear ra rs rt rb
              refine wpAnyH_ready (rs := [13]) (by kernel_rfl) (by simp) (AllReadyH.cons rfl (fun KQ hKQ => ?_) AllReadyH.nil)
              refine step_append_eq rfl (.tmp 41) (.tmp 44) 29 rfl _ _ (.slice aa ((st x).size + 1) ac) wa rfl rfl RA.out ?_
              refine hKQ.out _ _ (bstep PH.out.bel BA.out) (fun hH2 => ?_)
              clear hKQ KQ hHeld
              have hHeld := hH2
              clear hH2
              (try simp only [List.getElem_toArray, List.getElem_cons_succ, List.getElem_cons_zero, Act.put, List.setIfInBounds_toArray, List.set_cons_zero, List.set_cons_succ])
              have WX := Write_p (nm := st x) (v := .slice aa ((st x).size + 1) ac) (l := nb x ++ [k]) (PH.out.below BA.out) (by omega) (RS.out (by have := (okN_le ON.out).2; have := ES.out; rw [nb_len] at this; omega)) (fun _ q => by have := PH.out.lt.1; have := RB.out d q; have := HZ.out.size; have := G1.out; omega)
              rw [show (st x).data.toList = x from rfl, (inv_ok IV.out ON.out (y := k) (by omega)).1] at WX
              refine wpAnyH_ready (rs := [14]) (by kernel_rfl) (by simp) (AllReadyH.cons rfl (fun KQ hKQ => ?_) AllReadyH.nil)
              go_simp
              refine WX.mono ?_
              rintro e wb ⟨rfl, hp, hsz⟩
              have PB := Lib.hid hp
              clear hp WX hsz
              go_wp2_with fail
              refine hKQ.out _ _ PB.out.bel (fun hH2 => ?_)
              clear hKQ KQ hHeld
              have hHeld := hH2
              clear hH2
              (try simp only [List.getElem_toArray, List.getElem_cons_succ, List.getElem_cons_zero, Act.put, List.setIfInBounds_toArray, List.set_cons_zero, List.set_cons_succ])
              refine wpAnyH_take (i := 15) (v := ?_) rfl (by kernel_rfl) (by kernel_rfl) (by kernel_rfl) (fun _ _ _ h => h) (Or.inl ⟨by rfl, ?_⟩) hHeld ?_
              rotate_left
              · ((intro w _; go_simp); try with_reducible rfl)
              (try simp only [List.getElem_toArray, List.getElem_cons_succ, List.getElem_cons_zero, Act.put, List.setIfInBounds_toArray, List.set_cons_zero, List.set_cons_succ])
              refine wpAnyH_done (by kernel_rfl) ?_ _
              have yb := (PB.out.bel.cell (p := ⟨b, off + k, none⟩) HBB.out).trans HY.out
              obtain ⟨v9, w9, r9, p9⟩ := ph_app PB.out x (by omega) 41
              obtain ⟨a9, c9, rfl⟩ := ownS_form p9.own
              have P9 : Hid (Ph w w9 (.slice a9 (G.length + 1) c9) (G ++ [x]) d (writeS s x (nb x ++ [k]))) := Lib.hid (by have q := p9; rw [show (G ++ [x]).length = G.length + 1 from by simp] at q; exact q)
              clear p9
              go_wp2_with (first | (at_builtin; refine wpList_append_eq rfl _ _ 41 rfl _ _ _ w9 rfl rfl r9 ?_))
              exact ⟨⟨k + 1, writeS s x (nb x ++ [k]), G ++ [x], by omega, by omega, by go_num, P9.out, (inv_ok IV.out ON.out (y := k) (by omega)).2, by rw [List.length_append]; simp; omega, by have := len_writeS s x (nb x ++ [k]); omega⟩, by simp [intOf]; omega⟩
        · have e2 : decide ((k : Int) < 12) = false := decide_eq_false (by omega)
          go_wp2_with fail
          go_meet
          case rel => exact ⟨s, G, PH.out, IV.out, by omega, by omega⟩
      · have e1 : decide ((k : Int) < (n : Int)) = false := decide_eq_false (by omega)
        go_wp2_with fail
        go_meet
        case rel => exact ⟨s, G, PH.out, IV.out, by omega, by omega⟩
  case rest =>
    obtain ⟨s, G, hp, hi, hG, hs⟩ := hcut
    rename World => wr
    have PH := Lib.hid hp
    have IV := Lib.hid hi
    clear hp hi
    obtain ⟨ga, gc, rfl⟩ := ownS_form PH.out.own
    obtain ⟨gl, hgl⟩ : ∃ gl, G.length = gl := ⟨_, rfl⟩
    have LG := Lib.hid hgl
    have gl12 : gl ≤ 12 := by omega
    by_cases q0 : gl = 0
    · obtain rfl : G = [] := List.length_eq_zero_iff.1 (by omega)
      have NM := Lib.hid (Names_p PH.out (by omega) (inv_names IV.out))
      go_wp2_with fail
      refine NM.out.mono ?_
      rintro e w3 ⟨⟨a3, c3, rfl⟩, hp⟩
      have P3 := Lib.hid hp.bel
      clear hp NM
      go_wp2_with fail
      go_ret
      exact ⟨rfl, P3.out⟩
    rw [hgl]
    have g1 : ((gl : Int) == 0) = false := beq_eq_false_iff_ne.2 (by omega)
    have g2 : ¬ (gl : Int) = 0 := by omega
    by_cases q1 : 65536 < nd
    · have e3 : decide ((65536 : Int) < (nd : Int)) = true := decide_eq_true (by omega)
      go_wp2_with fail
      go_ret
      exact ⟨rfl, PH.out.bel⟩
    have e3 : decide ((65536 : Int) < (nd : Int)) = false := decide_eq_false (by omega)
    have INTO := Lib.hid (into_c z2 gl wr HB2.out.1 HB2.out.2 (by omega) (by omega))
    obtain ⟨gg, gc', ev, gbs, glt, gcap, gmax, gk⟩ := ownS_at PH.out.own (by omega)
    obtain ⟨rfl, rfl⟩ : ga = some ⟨gg, 0, none⟩ ∧ gc = gc' := by cases ev; exact ⟨rfl, rfl⟩
    have c1 : (gl : Int) ≤ (gc : Int) := by omega
    have c2 : (gc : Int) ≤ 9223372036854775807 := by unfold maxLen at gmax; omega
    have gl0 : (0 : Int) ≤ (gl : Int) := by omega
    have GK := Lib.hid gk
    have PHX : Hid (Ph w wr (.slice (some ⟨gg, 0, none⟩) gl gc) G d s) := Lib.hid (by rw [← hgl]; exact PH.out)
    clear ev gbs glt gcap gmax gk PH hgl q0
    go_upto_region 12 with fail
    go_wp2_with fail
    refine INTO.out.mono ?_
    rintro e w3 ⟨⟨r, hr, rfl⟩, hw⟩
    subst hw
    rename World => wr
    clear INTO
    obtain ⟨nm, hnm⟩ : ∃ nm, G[r]? = some nm := ⟨_, List.getElem?_eq_getElem (by rw [LG.out]; omega)⟩
    have yr := (GK.out r nm hnm).1
    have MEM : Hid (nm ∈ G) := Lib.hid (List.mem_of_getElem? hnm)
    have r0 : (0 : Int) ≤ (r : Int) := by omega
    obtain ⟨onm, y, hy, re, rd⟩ := inv_read IV.out MEM.out
    have ONM := Lib.hid onm
    have HYB := Lib.hid hy
    have RD0 := Read_p0 (nm := st nm) PHX.out
    rw [show (st nm).data.toList = nm from rfl, re, rd] at RD0
    have R0 := Lib.hid RD0
    have RDW := Lib.hid rd
    clear RD0 re rd hnm GK hy onm
    go_upto_region 13 with fail
    go_wp2_with fail
    refine R0.out.mono ?_
    rintro e w4 ⟨u, rfl, ou, og, hp4⟩
    have OG := Lib.hid og
    obtain ⟨ua, uc, rfl⟩ := own_form ou
    have OW := Lib.hid ou
    obtain ⟨lw, hlw⟩ : ∃ lw, (nb nm ++ [y]).length = lw := ⟨_, rfl⟩
    have HLW := Lib.hid hlw
    rw [hlw] at hp4 ⊢
    have P4 := Lib.hid hp4
    clear ou og hp4 R0 yr hlw
    have SD : Hid (Sl w (.slice da nd dc) (bl f nd)) := Lib.hid (sb_sl HSB.out (by omega))
    obtain ⟨dat, hdat⟩ : ∃ dat, bl f nd = dat := ⟨_, rfl⟩
    have LD : Hid (dat.length = nd) := Lib.hid (by rw [← hdat, bl_len])
    rw [hdat] at SD
    clear hdat
    have VD : Hid (0 < dat.length → (Value.slice da nd dc).ownBlock ≠ some d) := Lib.hid (fun h0 q => by have := sl_lt SD.out h0 d q; have := P4.out.lt.2; omega)
    obtain ⟨t1, t2, t3, t4, ⟨t5, t5'⟩, t6, t7⟩ := torn IV.out MEM.out (l := dat) (by rw [LD.out]; omega) z3
    rw [LD.out] at t1
    rw [RDW.out] at t5'
    obtain ⟨s2, hs2⟩ : ∃ s2, writeS (cutS s 0 z3) nm dat = s2 := ⟨_, rfl⟩
    rw [hs2] at t2 t3 t4 t5 t5' t6 t7
    have HS2 := Lib.hid hs2
    obtain ⟨s3, hs3⟩ : ∃ s3, restart s2 = s3 := ⟨_, rfl⟩
    rw [hs3] at t3 t4 t5 t5' t6 t7
    have HS3 := Lib.hid hs3
    have T1 := Lib.hid t1
    have T2 := Lib.hid t2
    have S3A := Lib.hid (And.intro t3 t4)
    have S3O := Lib.hid t6
    have S3F : Hid (s3.fs.length ≤ s.fs.length + 1) := Lib.hid t7
    have S2F : Hid (s2.fs.length ≤ s.fs.length + 1) := Lib.hid (by rw [← hs3] at t7; exact t7)
    obtain ⟨now, hnow⟩ : ∃ now, (if 0 ≤ z3 then dat.take z3.toNat else nb nm ++ [y]) = now := ⟨_, rfl⟩
    rw [hnow] at t5'
    have S3R := Lib.hid (And.intro t5 t5')
    have HNOW := Lib.hid hnow
    clear t1 t2 t3 t4 t5 t5' t6 t7 hs2 hs3 hnow
    have CT := Cut_z P4.out 0 z3 (by omega) HB3.out.1 HB3.out.2
    rw [show cutE 0 = 0 from by unfold cutE; rw [if_neg (by omega)]] at CT
    have C1 := Lib.hid CT
    clear CT
    go_upto_region 14 with fail
    go_wp2_with fail
    refine C1.out.mono ?_
    rintro e w5 ⟨rfl, hp5⟩
    have WR1 := Write_z (nm := st nm) hp5 (by have : (cutS s 0 z3).fs = s.fs := (by unfold cutS; split <;> first | rfl | (split <;> rfl)); rw [this]; omega) (SD.out.below hp5.bel) VD.out
    rw [show (st nm).data.toList = nm from rfl, LD.out, T1.out, HS2.out] at WR1
    have W1 := Lib.hid WR1
    clear C1 hp5 WR1
    go_wp2_with fail
    refine W1.out.mono ?_
    rintro e w6 ⟨rfl, hp6⟩
    have WR2 := Write_z (nm := st nm) (v := .slice none 0 0) (l := []) hp6 (by have := S2F.out; omega) (nil_sl _) (fun q => absurd q (by simp))
    rw [show (st nm).data.toList = nm from rfl, (out_write T2.out nm [] _).1, (out_write T2.out nm [] 0).2] at WR2
    have W2 := Lib.hid WR2
    clear W1 hp6 WR2
    go_wp2_with fail
    refine W2.out.mono ?_
    rintro e w7 ⟨rfl, hp7⟩
    have NM := Lib.hid (Names_z hp7 (by have := S2F.out; omega) (out_names T2.out))
    clear W2 hp7
    go_wp2_with fail
    refine NM.out.mono ?_
    rintro e w8 ⟨⟨a8, c8, rfl⟩, hp8⟩
    have RS0 := Restart_z hp8
    rw [HS3.out] at RS0
    have RS := Lib.hid RS0
    clear NM hp8 RS0
    go_wp2_with fail
    refine RS.out.mono ?_
    rintro e w8b ⟨rfl, hp9⟩
    have RD1 := Read_z (nm := st nm) hp9
    rw [show (st nm).data.toList = nm from rfl, S3R.out.1, S3R.out.2] at RD1
    have R1 := Lib.hid RD1
    have P8 := Lib.hid hp9
    clear RS hp9 RD1
    go_upto_region 16 with fail
    go_wp2_with fail
    refine R1.out.mono ?_
    rintro e w9 ⟨⟨u9, rfl, ou9⟩, hp9, hb9⟩
    have P9 := Lib.hid hp9
    obtain ⟨na, nc9, rfl⟩ := own_form ou9
    have NW8 : ∀ q ∈ now, q < 256 := by
      intro q hq
      rw [← HNOW.out] at hq
      by_cases z : 0 ≤ z3
      · rw [if_pos z] at hq; exact SD.out.2.1 q (List.mem_of_mem_take hq)
      · rw [if_neg z] at hq
        rcases List.mem_append.1 hq with z | z
        · exact nb_byte nm q z
        · rw [List.mem_singleton.1 z]; exact HYB.out
    have CVN : Hid (∀ z, Below w9.heap.size w9 z → (convert 29 9 (.slice na now.length nc9)).run Try.prog z = .ok (.string (bs8 now)) z) := Lib.hid (fun z q => own_str8 ou9 NW8 q)
    have CVW : Hid (∀ z, Below w9.heap.size w9 z → (convert 29 9 (.slice ua lw uc)).run Try.prog z = .ok (.string (bs8 (nb nm ++ [y]))) z) := Lib.hid (fun z q => by
      have ow := OW.out
      rw [HLW.out] at ow
      exact own_str8 (w0 := w9) (row_keep ow (fun g hg => P9.out.keep (.inr hg)) : Own w9 wr.heap.size _ _) (nb1 HYB.out) q)
    obtain ⟨ln, hln⟩ : ∃ ln, now.length = ln := ⟨_, rfl⟩
    have HLN := Lib.hid hln
    rw [hln] at CVN ⊢
    have ln0 : (0 : Int) ≤ (ln : Int) := by omega
    clear ou9 hp9 hb9 R1 hln
    go_upto_region 17 with fail
    go_cut [166] from 128 to 165 (fun c wx => c = .bool false ∧ wx = w9.drew)
    case first =>
      by_cases K : 0 ≤ z3
      · have eK : decide (0 ≤ z3) = true := decide_eq_true K
        have HN2 : now = dat.take z3.toNat := by rw [← HNOW.out, if_pos K]
        have ln2 : ln = min z3.toNat nd := by rw [← HLN.out, HN2, List.length_take, LD.out]
        have tkn : dat.take ln = now := by
          rw [HN2]
          by_cases q : z3.toNat ≤ nd
          · rw [show ln = z3.toNat by omega]
          · rw [List.take_of_length_le (by rw [LD.out]; omega), List.take_of_length_le (by rw [LD.out]; omega)]
        have ln1 : ln ≤ nd := by omega
        have e6 : min z3 (nd : Int) = (ln : Int) := by omega
        have e7 : decide ((nd : Int) < (ln : Int)) = false := decide_eq_false (by omega)
        have e7n : decide (nd < ln) = false := decide_eq_false (by omega)
        have e7m : ¬ (nd < ln) := by omega
        have cln : (ln : Int) ≤ (dc : Int) := by omega
        have CVD : Hid (∀ z, Below w9.heap.size w9 z → (convert 29 9 (.slice da ln dc)).run Try.prog z = .ok (.string (bs8 now)) z) := Lib.hid (fun z q => by
          have sd := SD.out.below P9.out.bel
          rw [← LD.out] at sd
          have r := (sl_front sd (a := ln) (by rw [LD.out]; exact ln1)).conv q
          rwa [tkn] at r)
        clear HN2 ln2 tkn
        generalize bs8 now = SN at *
        generalize bs8 (nb nm ++ [y]) = SW at *
        by_cases EQ : SN = SW
        · subst EQ
          refine wp_region_held_drew (S := fun z => Below w9.heap.size w9 z) (by kernel_rfl) (brefl w9).drew (fun hHeld => ?_)
          refine wpAnyH_take (i := 0) (v := ?_) rfl (by kernel_rfl) (by kernel_rfl) (by kernel_rfl) (fun _ _ _ h => h) (Or.inl ⟨by rfl, ?_⟩) hHeld ?_
          rotate_left
          · ((intro w _; go_simp); try with_reducible rfl)
          (try simp only [List.getElem_toArray, List.getElem_cons_succ, List.getElem_cons_zero, Act.put, List.setIfInBounds_toArray, List.set_cons_zero, List.set_cons_succ])
          refine wpAnyH_take (i := 1) (v := ?_) rfl (by kernel_rfl) (by kernel_rfl) (by kernel_rfl) (fun _ _ _ h => h) (Or.inl ⟨by rfl, ?_⟩) hHeld ?_
          rotate_left
          · ((intro w _; go_simp); try with_reducible rfl)
          (try simp only [List.getElem_toArray, List.getElem_cons_succ, List.getElem_cons_zero, Act.put, List.setIfInBounds_toArray, List.set_cons_zero, List.set_cons_succ])
          refine wpAnyH_take (i := 2) (v := ?_) rfl (by kernel_rfl) (by kernel_rfl) (by kernel_rfl) (fun _ _ _ h => h) (Or.inl ⟨by rfl, ?_⟩) hHeld ?_
          rotate_left
          · ((intro w _; go_simp); try with_reducible rfl)
          (try simp only [List.getElem_toArray, List.getElem_cons_succ, List.getElem_cons_zero, Act.put, List.setIfInBounds_toArray, List.set_cons_zero, List.set_cons_succ])
          refine wpAnyH_take (i := 3) (v := ?_) rfl (by kernel_rfl) (by kernel_rfl) (by kernel_rfl) (fun _ _ _ h => h) (Or.inl ⟨by rfl, ?_⟩) hHeld ?_
          rotate_left
          · ((intro w _; go_simp); try with_reducible rfl)
          (try simp only [List.getElem_toArray, List.getElem_cons_succ, List.getElem_cons_zero, Act.put, List.setIfInBounds_toArray, List.set_cons_zero, List.set_cons_succ])
          refine wpAnyH_take (i := 4) (v := ?_) rfl (by kernel_rfl) (by kernel_rfl) (by kernel_rfl) (fun _ _ _ h => h) (Or.inl ⟨by rfl, ?_⟩) hHeld ?_
          rotate_left
          · (intro z hSw; have z1 := CVN.out z hSw; go_simp; try with_reducible rfl)
          (try simp only [List.getElem_toArray, List.getElem_cons_succ, List.getElem_cons_zero, Act.put, List.setIfInBounds_toArray, List.set_cons_zero, List.set_cons_succ])
          refine wpAnyH_take (i := 5) (v := ?_) rfl (by kernel_rfl) (by kernel_rfl) (by kernel_rfl) (fun _ _ _ h => h) (Or.inl ⟨by rfl, ?_⟩) hHeld ?_
          rotate_left
          · ((intro w _; go_simp); try with_reducible rfl)
          (try simp only [List.getElem_toArray, List.getElem_cons_succ, List.getElem_cons_zero, Act.put, List.setIfInBounds_toArray, List.set_cons_zero, List.set_cons_succ])
          refine wpAnyH_take (i := 6) (v := ?_) rfl (by kernel_rfl) (by kernel_rfl) (by kernel_rfl) (fun _ _ _ h => h) (Or.inl ⟨by rfl, ?_⟩) hHeld ?_
          rotate_left
          · (intro z hSw; have z1 := CVW.out z hSw; go_simp; try with_reducible rfl)
          (try simp only [List.getElem_toArray, List.getElem_cons_succ, List.getElem_cons_zero, Act.put, List.setIfInBounds_toArray, List.set_cons_zero, List.set_cons_succ])
          refine wpAnyH_take (i := 7) (v := ?_) rfl (by kernel_rfl) (by kernel_rfl) (by kernel_rfl) (fun _ _ _ h => h) (Or.inl ⟨by rfl, ?_⟩) hHeld ?_
          rotate_left
          · ((intro w _; go_simp); try with_reducible rfl)
          (try simp only [List.getElem_toArray, List.getElem_cons_succ, List.getElem_cons_zero, Act.put, List.setIfInBounds_toArray, List.set_cons_zero, List.set_cons_succ])
          refine wpAnyH_take (i := 8) (v := ?_) rfl (by kernel_rfl) (by kernel_rfl) (by kernel_rfl) (fun _ _ _ h => h) (Or.inl ⟨by rfl, ?_⟩) hHeld ?_
          rotate_left
          · ((intro w _; go_simp); try with_reducible rfl)
          (try simp only [List.getElem_toArray, List.getElem_cons_succ, List.getElem_cons_zero, Act.put, List.setIfInBounds_toArray, List.set_cons_zero, List.set_cons_succ])
          refine wpAnyH_take (i := 9) (v := undef) rfl (by kernel_rfl) (by kernel_rfl) (by kernel_rfl) (fun _ _ _ h => h) (Or.inr ⟨by rfl, rfl⟩) hHeld ?_
          (try simp only [List.getElem_toArray, List.getElem_cons_succ, List.getElem_cons_zero, Act.put, List.setIfInBounds_toArray, List.set_cons_zero, List.set_cons_succ])
          refine wpAnyH_take (i := 10) (v := undef) rfl (by kernel_rfl) (by kernel_rfl) (by kernel_rfl) (fun _ _ _ h => h) (Or.inr ⟨by rfl, rfl⟩) hHeld ?_
          (try simp only [List.getElem_toArray, List.getElem_cons_succ, List.getElem_cons_zero, Act.put, List.setIfInBounds_toArray, List.set_cons_zero, List.set_cons_succ])
          refine wpAnyH_take (i := 11) (v := undef) rfl (by kernel_rfl) (by kernel_rfl) (by kernel_rfl) (fun _ _ _ h => h) (Or.inr ⟨by rfl, rfl⟩) hHeld ?_
          (try simp only [List.getElem_toArray, List.getElem_cons_succ, List.getElem_cons_zero, Act.put, List.setIfInBounds_toArray, List.set_cons_zero, List.set_cons_succ])
          refine wpAnyH_take (i := 12) (v := undef) rfl (by kernel_rfl) (by kernel_rfl) (by kernel_rfl) (fun _ _ _ h => h) (Or.inr ⟨by rfl, rfl⟩) hHeld ?_
          (try simp only [List.getElem_toArray, List.getElem_cons_succ, List.getElem_cons_zero, Act.put, List.setIfInBounds_toArray, List.set_cons_zero, List.set_cons_succ])
          refine wpAnyH_take (i := 13) (v := undef) rfl (by kernel_rfl) (by kernel_rfl) (by kernel_rfl) (fun _ _ _ h => h) (Or.inr ⟨by rfl, rfl⟩) hHeld ?_
          (try simp only [List.getElem_toArray, List.getElem_cons_succ, List.getElem_cons_zero, Act.put, List.setIfInBounds_toArray, List.set_cons_zero, List.set_cons_succ])
          refine wpAnyH_take (i := 14) (v := undef) rfl (by kernel_rfl) (by kernel_rfl) (by kernel_rfl) (fun _ _ _ h => h) (Or.inr ⟨by rfl, rfl⟩) hHeld ?_
          (try simp only [List.getElem_toArray, List.getElem_cons_succ, List.getElem_cons_zero, Act.put, List.setIfInBounds_toArray, List.set_cons_zero, List.set_cons_succ])
          refine wpAnyH_take (i := 15) (v := undef) rfl (by kernel_rfl) (by kernel_rfl) (by kernel_rfl) (fun _ _ _ h => h) (Or.inr ⟨by rfl, rfl⟩) hHeld ?_
          (try simp only [List.getElem_toArray, List.getElem_cons_succ, List.getElem_cons_zero, Act.put, List.setIfInBounds_toArray, List.set_cons_zero, List.set_cons_succ])
          refine wpAnyH_take (i := 16) (v := undef) rfl (by kernel_rfl) (by kernel_rfl) (by kernel_rfl) (fun _ _ _ h => h) (Or.inr ⟨by rfl, rfl⟩) hHeld ?_
          (try simp only [List.getElem_toArray, List.getElem_cons_succ, List.getElem_cons_zero, Act.put, List.setIfInBounds_toArray, List.set_cons_zero, List.set_cons_succ])
          refine wpAnyH_take (i := 17) (v := undef) rfl (by kernel_rfl) (by kernel_rfl) (by kernel_rfl) (fun _ _ _ h => h) (Or.inr ⟨by rfl, rfl⟩) hHeld ?_
          (try simp only [List.getElem_toArray, List.getElem_cons_succ, List.getElem_cons_zero, Act.put, List.setIfInBounds_toArray, List.set_cons_zero, List.set_cons_succ])
          refine wpAnyH_take (i := 18) (v := undef) rfl (by kernel_rfl) (by kernel_rfl) (by kernel_rfl) (fun _ _ _ h => h) (Or.inr ⟨by rfl, rfl⟩) hHeld ?_
          (try simp only [List.getElem_toArray, List.getElem_cons_succ, List.getElem_cons_zero, Act.put, List.setIfInBounds_toArray, List.set_cons_zero, List.set_cons_succ])
          refine wpAnyH_take (i := 19) (v := undef) rfl (by kernel_rfl) (by kernel_rfl) (by kernel_rfl) (fun _ _ _ h => h) (Or.inr ⟨by rfl, rfl⟩) hHeld ?_
          (try simp only [List.getElem_toArray, List.getElem_cons_succ, List.getElem_cons_zero, Act.put, List.setIfInBounds_toArray, List.set_cons_zero, List.set_cons_succ])
          refine wpAnyH_take (i := 20) (v := undef) rfl (by kernel_rfl) (by kernel_rfl) (by kernel_rfl) (fun _ _ _ h => h) (Or.inr ⟨by rfl, rfl⟩) hHeld ?_
          (try simp only [List.getElem_toArray, List.getElem_cons_succ, List.getElem_cons_zero, Act.put, List.setIfInBounds_toArray, List.set_cons_zero, List.set_cons_succ])
          refine wpAnyH_take (i := 21) (v := undef) rfl (by kernel_rfl) (by kernel_rfl) (by kernel_rfl) (fun _ _ _ h => h) (Or.inr ⟨by rfl, rfl⟩) hHeld ?_
          (try simp only [List.getElem_toArray, List.getElem_cons_succ, List.getElem_cons_zero, Act.put, List.setIfInBounds_toArray, List.set_cons_zero, List.set_cons_succ])
          refine wpAnyH_take (i := 22) (v := undef) rfl (by kernel_rfl) (by kernel_rfl) (by kernel_rfl) (fun _ _ _ h => h) (Or.inr ⟨by rfl, rfl⟩) hHeld ?_
          (try simp only [List.getElem_toArray, List.getElem_cons_succ, List.getElem_cons_zero, Act.put, List.setIfInBounds_toArray, List.set_cons_zero, List.set_cons_succ])
          refine wpAnyH_take (i := 23) (v := undef) rfl (by kernel_rfl) (by kernel_rfl) (by kernel_rfl) (fun _ _ _ h => h) (Or.inr ⟨by rfl, rfl⟩) hHeld ?_
          (try simp only [List.getElem_toArray, List.getElem_cons_succ, List.getElem_cons_zero, Act.put, List.setIfInBounds_toArray, List.set_cons_zero, List.set_cons_succ])
          refine wpAnyH_take (i := 24) (v := ?_) rfl (by kernel_rfl) (by kernel_rfl) (by kernel_rfl) (fun _ _ _ h => h) (Or.inl ⟨by rfl, ?_⟩) hHeld ?_
          rotate_left
          · ((intro w _; go_simp); try with_reducible rfl)
          (try simp only [List.getElem_toArray, List.getElem_cons_succ, List.getElem_cons_zero, Act.put, List.setIfInBounds_toArray, List.set_cons_zero, List.set_cons_succ])
          refine wpAnyH_take (i := 25) (v := ?_) rfl (by kernel_rfl) (by kernel_rfl) (by kernel_rfl) (fun _ _ _ h => h) (Or.inl ⟨by rfl, ?_⟩) hHeld ?_
          rotate_left
          · ((intro w _; go_simp); try with_reducible rfl)
          (try simp only [List.getElem_toArray, List.getElem_cons_succ, List.getElem_cons_zero, Act.put, List.setIfInBounds_toArray, List.set_cons_zero, List.set_cons_succ])
          refine wpAnyH_take (i := 26) (v := ?_) rfl (by kernel_rfl) (by kernel_rfl) (by kernel_rfl) (fun _ _ _ h => h) (Or.inl ⟨by rfl, ?_⟩) hHeld ?_
          rotate_left
          · ((intro w _; go_simp); try with_reducible rfl)
          (try simp only [List.getElem_toArray, List.getElem_cons_succ, List.getElem_cons_zero, Act.put, List.setIfInBounds_toArray, List.set_cons_zero, List.set_cons_succ])
          refine wpAnyH_take (i := 27) (v := ?_) rfl (by kernel_rfl) (by kernel_rfl) (by kernel_rfl) (fun _ _ _ h => h) (Or.inl ⟨by rfl, ?_⟩) hHeld ?_
          rotate_left
          · ((intro w _; go_simp); try with_reducible rfl)
          (try simp only [List.getElem_toArray, List.getElem_cons_succ, List.getElem_cons_zero, Act.put, List.setIfInBounds_toArray, List.set_cons_zero, List.set_cons_succ])
          refine wpAnyH_take (i := 28) (v := ?_) rfl (by kernel_rfl) (by kernel_rfl) (by kernel_rfl) (fun _ _ _ h => h) (Or.inl ⟨by rfl, ?_⟩) hHeld ?_
          rotate_left
          · ((intro w _; go_simp); try with_reducible rfl)
          (try simp only [List.getElem_toArray, List.getElem_cons_succ, List.getElem_cons_zero, Act.put, List.setIfInBounds_toArray, List.set_cons_zero, List.set_cons_succ])
          refine wpAnyH_take (i := 29) (v := ?_) rfl (by kernel_rfl) (by kernel_rfl) (by kernel_rfl) (fun _ _ _ h => h) (Or.inl ⟨by rfl, ?_⟩) hHeld ?_
          rotate_left
          · ((intro w _; go_simp); try with_reducible rfl)
          (try simp only [List.getElem_toArray, List.getElem_cons_succ, List.getElem_cons_zero, Act.put, List.setIfInBounds_toArray, List.set_cons_zero, List.set_cons_succ])
          refine wpAnyH_take (i := 30) (v := ?_) rfl (by kernel_rfl) (by kernel_rfl) (by kernel_rfl) (fun _ _ _ h => h) (Or.inl ⟨by rfl, ?_⟩) hHeld ?_
          rotate_left
          · ((intro w _; go_simp); try with_reducible rfl)
          (try simp only [List.getElem_toArray, List.getElem_cons_succ, List.getElem_cons_zero, Act.put, List.setIfInBounds_toArray, List.set_cons_zero, List.set_cons_succ])
          refine wpAnyH_take (i := 31) (v := ?_) rfl (by kernel_rfl) (by kernel_rfl) (by kernel_rfl) (fun _ _ _ h => h) (Or.inl ⟨by rfl, ?_⟩) hHeld ?_
          rotate_left
          · ((intro w _; go_simp); try with_reducible rfl)
          (try simp only [List.getElem_toArray, List.getElem_cons_succ, List.getElem_cons_zero, Act.put, List.setIfInBounds_toArray, List.set_cons_zero, List.set_cons_succ])
          refine wpAnyH_take (i := 32) (v := ?_) rfl (by kernel_rfl) (by kernel_rfl) (by kernel_rfl) (fun _ _ _ h => h) (Or.inl ⟨by rfl, ?_⟩) hHeld ?_
          rotate_left
          · ((intro w _; go_simp); try with_reducible rfl)
          (try simp only [List.getElem_toArray, List.getElem_cons_succ, List.getElem_cons_zero, Act.put, List.setIfInBounds_toArray, List.set_cons_zero, List.set_cons_succ])
          refine wpAnyH_take (i := 33) (v := ?_) rfl (by kernel_rfl) (by kernel_rfl) (by kernel_rfl) (fun _ _ _ h => h) (Or.inl ⟨by rfl, ?_⟩) hHeld ?_
          rotate_left
          · ((intro w _; go_simp); try with_reducible rfl)
          (try simp only [List.getElem_toArray, List.getElem_cons_succ, List.getElem_cons_zero, Act.put, List.setIfInBounds_toArray, List.set_cons_zero, List.set_cons_succ])
          refine wpAnyH_take (i := 34) (v := ?_) rfl (by kernel_rfl) (by kernel_rfl) (by kernel_rfl) (fun _ _ _ h => h) (Or.inl ⟨by rfl, ?_⟩) hHeld ?_
          rotate_left
          · ((intro w _; go_simp); try with_reducible rfl)
          (try simp only [List.getElem_toArray, List.getElem_cons_succ, List.getElem_cons_zero, Act.put, List.setIfInBounds_toArray, List.set_cons_zero, List.set_cons_succ])
          refine wpAnyH_take (i := 35) (v := ?_) rfl (by kernel_rfl) (by kernel_rfl) (by kernel_rfl) (fun _ _ _ h => h) (Or.inl ⟨by rfl, ?_⟩) hHeld ?_
          rotate_left
          · ((intro w _; go_simp); try with_reducible rfl)
          (try simp only [List.getElem_toArray, List.getElem_cons_succ, List.getElem_cons_zero, Act.put, List.setIfInBounds_toArray, List.set_cons_zero, List.set_cons_succ])
          refine wpAnyH_take (i := 36) (v := ?_) rfl (by kernel_rfl) (by kernel_rfl) (by kernel_rfl) (fun _ _ _ h => h) (Or.inl ⟨by rfl, ?_⟩) hHeld ?_
          rotate_left
          · ((intro w _; go_simp); try with_reducible rfl)
          (try simp only [List.getElem_toArray, List.getElem_cons_succ, List.getElem_cons_zero, Act.put, List.setIfInBounds_toArray, List.set_cons_zero, List.set_cons_succ])
          refine wpAnyH_take (i := 37) (v := ?_) rfl (by kernel_rfl) (by kernel_rfl) (by kernel_rfl) (fun _ _ _ h => h) (Or.inl ⟨by rfl, ?_⟩) hHeld ?_
          rotate_left
          · ((intro w _; go_simp); try with_reducible rfl)
          (try simp only [List.getElem_toArray, List.getElem_cons_succ, List.getElem_cons_zero, Act.put, List.setIfInBounds_toArray, List.set_cons_zero, List.set_cons_succ])
          refine wpAnyH_take (i := 38) (v := ?_) rfl (by kernel_rfl) (by kernel_rfl) (by kernel_rfl) (fun _ _ _ h => h) (Or.inl ⟨by rfl, ?_⟩) hHeld ?_
          rotate_left
          · ((intro w _; go_simp); try with_reducible rfl)
          (try simp only [List.getElem_toArray, List.getElem_cons_succ, List.getElem_cons_zero, Act.put, List.setIfInBounds_toArray, List.set_cons_zero, List.set_cons_succ])
          refine wpAnyH_done (by kernel_rfl) ?_ _
          go_wp2_with fail
          go_meet
          case rel => exact ⟨rfl, rfl⟩
        · have NEb : (SN.toList == SW.toList) = false := str_ne EQ
          refine wp_region_held_drew (S := fun z => Below w9.heap.size w9 z) (by kernel_rfl) (brefl w9).drew (fun hHeld => ?_)
          refine wpAnyH_take (i := 0) (v := ?_) rfl (by kernel_rfl) (by kernel_rfl) (by kernel_rfl) (fun _ _ _ h => h) (Or.inl ⟨by rfl, ?_⟩) hHeld ?_
          rotate_left
          · ((intro w _; go_simp); try with_reducible rfl)
          (try simp only [List.getElem_toArray, List.getElem_cons_succ, List.getElem_cons_zero, Act.put, List.setIfInBounds_toArray, List.set_cons_zero, List.set_cons_succ])
          refine wpAnyH_take (i := 1) (v := ?_) rfl (by kernel_rfl) (by kernel_rfl) (by kernel_rfl) (fun _ _ _ h => h) (Or.inl ⟨by rfl, ?_⟩) hHeld ?_
          rotate_left
          · ((intro w _; go_simp); try with_reducible rfl)
          (try simp only [List.getElem_toArray, List.getElem_cons_succ, List.getElem_cons_zero, Act.put, List.setIfInBounds_toArray, List.set_cons_zero, List.set_cons_succ])
          refine wpAnyH_take (i := 2) (v := ?_) rfl (by kernel_rfl) (by kernel_rfl) (by kernel_rfl) (fun _ _ _ h => h) (Or.inl ⟨by rfl, ?_⟩) hHeld ?_
          rotate_left
          · ((intro w _; go_simp); try with_reducible rfl)
          (try simp only [List.getElem_toArray, List.getElem_cons_succ, List.getElem_cons_zero, Act.put, List.setIfInBounds_toArray, List.set_cons_zero, List.set_cons_succ])
          refine wpAnyH_take (i := 3) (v := ?_) rfl (by kernel_rfl) (by kernel_rfl) (by kernel_rfl) (fun _ _ _ h => h) (Or.inl ⟨by rfl, ?_⟩) hHeld ?_
          rotate_left
          · ((intro w _; go_simp); try with_reducible rfl)
          (try simp only [List.getElem_toArray, List.getElem_cons_succ, List.getElem_cons_zero, Act.put, List.setIfInBounds_toArray, List.set_cons_zero, List.set_cons_succ])
          refine wpAnyH_take (i := 4) (v := ?_) rfl (by kernel_rfl) (by kernel_rfl) (by kernel_rfl) (fun _ _ _ h => h) (Or.inl ⟨by rfl, ?_⟩) hHeld ?_
          rotate_left
          · (intro z hSw; have z1 := CVN.out z hSw; go_simp; try with_reducible rfl)
          (try simp only [List.getElem_toArray, List.getElem_cons_succ, List.getElem_cons_zero, Act.put, List.setIfInBounds_toArray, List.set_cons_zero, List.set_cons_succ])
          refine wpAnyH_take (i := 5) (v := ?_) rfl (by kernel_rfl) (by kernel_rfl) (by kernel_rfl) (fun _ _ _ h => h) (Or.inl ⟨by rfl, ?_⟩) hHeld ?_
          rotate_left
          · ((intro w _; go_simp); try with_reducible rfl)
          (try simp only [List.getElem_toArray, List.getElem_cons_succ, List.getElem_cons_zero, Act.put, List.setIfInBounds_toArray, List.set_cons_zero, List.set_cons_succ])
          refine wpAnyH_take (i := 6) (v := ?_) rfl (by kernel_rfl) (by kernel_rfl) (by kernel_rfl) (fun _ _ _ h => h) (Or.inl ⟨by rfl, ?_⟩) hHeld ?_
          rotate_left
          · (intro z hSw; have z1 := CVW.out z hSw; go_simp; try with_reducible rfl)
          (try simp only [List.getElem_toArray, List.getElem_cons_succ, List.getElem_cons_zero, Act.put, List.setIfInBounds_toArray, List.set_cons_zero, List.set_cons_succ])
          refine wpAnyH_take (i := 7) (v := ?_) rfl (by kernel_rfl) (by kernel_rfl) (by kernel_rfl) (fun _ _ _ h => h) (Or.inl ⟨by rfl, ?_⟩) hHeld ?_
          rotate_left
          · ((intro w _; go_simp); try with_reducible rfl)
          (try simp only [List.getElem_toArray, List.getElem_cons_succ, List.getElem_cons_zero, Act.put, List.setIfInBounds_toArray, List.set_cons_zero, List.set_cons_succ])
          refine wpAnyH_take (i := 8) (v := ?_) rfl (by kernel_rfl) (by kernel_rfl) (by kernel_rfl) (fun _ _ _ h => h) (Or.inl ⟨by rfl, ?_⟩) hHeld ?_
          rotate_left
          · ((intro w _; go_simp); try with_reducible rfl)
          (try simp only [List.getElem_toArray, List.getElem_cons_succ, List.getElem_cons_zero, Act.put, List.setIfInBounds_toArray, List.set_cons_zero, List.set_cons_succ])
          refine wpAnyH_take (i := 9) (v := ?_) rfl (by kernel_rfl) (by kernel_rfl) (by kernel_rfl) (fun _ _ _ h => h) (Or.inl ⟨by rfl, ?_⟩) hHeld ?_
          rotate_left
          · ((intro w _; go_simp); try with_reducible rfl)
          (try simp only [List.getElem_toArray, List.getElem_cons_succ, List.getElem_cons_zero, Act.put, List.setIfInBounds_toArray, List.set_cons_zero, List.set_cons_succ])
          refine wpAnyH_take (i := 10) (v := ?_) rfl (by kernel_rfl) (by kernel_rfl) (by kernel_rfl) (fun _ _ _ h => h) (Or.inl ⟨by rfl, ?_⟩) hHeld ?_
          rotate_left
          · ((intro w _; go_simp); try with_reducible rfl)
          (try simp only [List.getElem_toArray, List.getElem_cons_succ, List.getElem_cons_zero, Act.put, List.setIfInBounds_toArray, List.set_cons_zero, List.set_cons_succ])
          refine wpAnyH_take (i := 11) (v := ?_) rfl (by kernel_rfl) (by kernel_rfl) (by kernel_rfl) (fun _ _ _ h => h) (Or.inl ⟨by rfl, ?_⟩) hHeld ?_
          rotate_left
          · ((intro w _; go_simp); try with_reducible rfl)
          (try simp only [List.getElem_toArray, List.getElem_cons_succ, List.getElem_cons_zero, Act.put, List.setIfInBounds_toArray, List.set_cons_zero, List.set_cons_succ])
          refine wpAnyH_take (i := 12) (v := ?_) rfl (by kernel_rfl) (by kernel_rfl) (by kernel_rfl) (fun _ _ _ h => h) (Or.inl ⟨by rfl, ?_⟩) hHeld ?_
          rotate_left
          · ((intro w _; go_simp); try with_reducible rfl)
          (try simp only [List.getElem_toArray, List.getElem_cons_succ, List.getElem_cons_zero, Act.put, List.setIfInBounds_toArray, List.set_cons_zero, List.set_cons_succ])
          refine wpAnyH_take (i := 13) (v := ?_) rfl (by kernel_rfl) (by kernel_rfl) (by kernel_rfl) (fun _ _ _ h => h) (Or.inl ⟨by rfl, ?_⟩) hHeld ?_
          rotate_left
          · ((intro w _; go_simp); try with_reducible rfl)
          (try simp only [List.getElem_toArray, List.getElem_cons_succ, List.getElem_cons_zero, Act.put, List.setIfInBounds_toArray, List.set_cons_zero, List.set_cons_succ])
          refine wpAnyH_take (i := 14) (v := ?_) rfl (by kernel_rfl) (by kernel_rfl) (by kernel_rfl) (fun _ _ _ h => h) (Or.inl ⟨by rfl, ?_⟩) hHeld ?_
          rotate_left
          · ((intro w _; go_simp); try with_reducible rfl)
          (try simp only [List.getElem_toArray, List.getElem_cons_succ, List.getElem_cons_zero, Act.put, List.setIfInBounds_toArray, List.set_cons_zero, List.set_cons_succ])
          refine wpAnyH_take (i := 15) (v := ?_) rfl (by kernel_rfl) (by kernel_rfl) (by kernel_rfl) (fun _ _ _ h => h) (Or.inl ⟨by rfl, ?_⟩) hHeld ?_
          rotate_left
          · ((intro w _; go_simp); try with_reducible rfl)
          (try simp only [List.getElem_toArray, List.getElem_cons_succ, List.getElem_cons_zero, Act.put, List.setIfInBounds_toArray, List.set_cons_zero, List.set_cons_succ])
          refine wpAnyH_take (i := 16) (v := ?_) rfl (by kernel_rfl) (by kernel_rfl) (by kernel_rfl) (fun _ _ _ h => h) (Or.inl ⟨by rfl, ?_⟩) hHeld ?_
          rotate_left
          · (intro z hSw; have z1 := CVN.out z hSw; go_simp; try with_reducible rfl)
          (try simp only [List.getElem_toArray, List.getElem_cons_succ, List.getElem_cons_zero, Act.put, List.setIfInBounds_toArray, List.set_cons_zero, List.set_cons_succ])
          refine wpAnyH_take (i := 17) (v := ?_) rfl (by kernel_rfl) (by kernel_rfl) (by kernel_rfl) (fun _ _ _ h => h) (Or.inl ⟨by rfl, ?_⟩) hHeld ?_
          rotate_left
          · ((intro w _; go_simp); try with_reducible rfl)
          (try simp only [List.getElem_toArray, List.getElem_cons_succ, List.getElem_cons_zero, Act.put, List.setIfInBounds_toArray, List.set_cons_zero, List.set_cons_succ])
          refine wpAnyH_take (i := 18) (v := ?_) rfl (by kernel_rfl) (by kernel_rfl) (by kernel_rfl) (fun _ _ _ h => h) (Or.inl ⟨by rfl, ?_⟩) hHeld ?_
          rotate_left
          · ((intro w _; go_simp); try with_reducible rfl)
          (try simp only [List.getElem_toArray, List.getElem_cons_succ, List.getElem_cons_zero, Act.put, List.setIfInBounds_toArray, List.set_cons_zero, List.set_cons_succ])
          refine wpAnyH_take (i := 19) (v := ?_) rfl (by kernel_rfl) (by kernel_rfl) (by kernel_rfl) (fun _ _ _ h => h) (Or.inl ⟨by rfl, ?_⟩) hHeld ?_
          rotate_left
          · ((intro w _; go_simp); try with_reducible rfl)
          (try simp only [List.getElem_toArray, List.getElem_cons_succ, List.getElem_cons_zero, Act.put, List.setIfInBounds_toArray, List.set_cons_zero, List.set_cons_succ])
          refine wpAnyH_take (i := 20) (v := ?_) rfl (by kernel_rfl) (by kernel_rfl) (by kernel_rfl) (fun _ _ _ h => h) (Or.inl ⟨by rfl, ?_⟩) hHeld ?_
          rotate_left
          · ((intro w _; go_simp); try with_reducible rfl)
          (try simp only [List.getElem_toArray, List.getElem_cons_succ, List.getElem_cons_zero, Act.put, List.setIfInBounds_toArray, List.set_cons_zero, List.set_cons_succ])
          refine wpAnyH_take (i := 21) (v := ?_) rfl (by kernel_rfl) (by kernel_rfl) (by kernel_rfl) (fun _ _ _ h => h) (Or.inl ⟨by rfl, ?_⟩) hHeld ?_
          rotate_left
          · (intro z hSw; have z1 := CVD.out z hSw; go_simp; try with_reducible rfl)
          (try simp only [List.getElem_toArray, List.getElem_cons_succ, List.getElem_cons_zero, Act.put, List.setIfInBounds_toArray, List.set_cons_zero, List.set_cons_succ])
          refine wpAnyH_take (i := 22) (v := ?_) rfl (by kernel_rfl) (by kernel_rfl) (by kernel_rfl) (fun _ _ _ h => h) (Or.inl ⟨by rfl, ?_⟩) hHeld ?_
          rotate_left
          · ((intro w _; go_simp); try with_reducible rfl)
          (try simp only [List.getElem_toArray, List.getElem_cons_succ, List.getElem_cons_zero, Act.put, List.setIfInBounds_toArray, List.set_cons_zero, List.set_cons_succ])
          refine wpAnyH_take (i := 23) (v := ?_) rfl (by kernel_rfl) (by kernel_rfl) (by kernel_rfl) (fun _ _ _ h => h) (Or.inl ⟨by rfl, ?_⟩) hHeld ?_
          rotate_left
          · ((intro w _; go_simp); try with_reducible rfl)
          (try simp only [List.getElem_toArray, List.getElem_cons_succ, List.getElem_cons_zero, Act.put, List.setIfInBounds_toArray, List.set_cons_zero, List.set_cons_succ])
          refine wpAnyH_take (i := 24) (v := ?_) rfl (by kernel_rfl) (by kernel_rfl) (by kernel_rfl) (fun _ _ _ h => h) (Or.inl ⟨by rfl, ?_⟩) hHeld ?_
          rotate_left
          · ((intro w _; go_simp); try with_reducible rfl)
          (try simp only [List.getElem_toArray, List.getElem_cons_succ, List.getElem_cons_zero, Act.put, List.setIfInBounds_toArray, List.set_cons_zero, List.set_cons_succ])
          refine wpAnyH_take (i := 25) (v := ?_) rfl (by kernel_rfl) (by kernel_rfl) (by kernel_rfl) (fun _ _ _ h => h) (Or.inl ⟨by rfl, ?_⟩) hHeld ?_
          rotate_left
          · ((intro w _; go_simp); try with_reducible rfl)
          (try simp only [List.getElem_toArray, List.getElem_cons_succ, List.getElem_cons_zero, Act.put, List.setIfInBounds_toArray, List.set_cons_zero, List.set_cons_succ])
          refine wpAnyH_take (i := 26) (v := ?_) rfl (by kernel_rfl) (by kernel_rfl) (by kernel_rfl) (fun _ _ _ h => h) (Or.inl ⟨by rfl, ?_⟩) hHeld ?_
          rotate_left
          · ((intro w _; go_simp); try with_reducible rfl)
          (try simp only [List.getElem_toArray, List.getElem_cons_succ, List.getElem_cons_zero, Act.put, List.setIfInBounds_toArray, List.set_cons_zero, List.set_cons_succ])
          refine wpAnyH_take (i := 27) (v := ?_) rfl (by kernel_rfl) (by kernel_rfl) (by kernel_rfl) (fun _ _ _ h => h) (Or.inl ⟨by rfl, ?_⟩) hHeld ?_
          rotate_left
          · ((intro w _; go_simp); try with_reducible rfl)
          (try simp only [List.getElem_toArray, List.getElem_cons_succ, List.getElem_cons_zero, Act.put, List.setIfInBounds_toArray, List.set_cons_zero, List.set_cons_succ])
          refine wpAnyH_take (i := 28) (v := ?_) rfl (by kernel_rfl) (by kernel_rfl) (by kernel_rfl) (fun _ _ _ h => h) (Or.inl ⟨by rfl, ?_⟩) hHeld ?_
          rotate_left
          · ((intro w _; go_simp); try with_reducible rfl)
          (try simp only [List.getElem_toArray, List.getElem_cons_succ, List.getElem_cons_zero, Act.put, List.setIfInBounds_toArray, List.set_cons_zero, List.set_cons_succ])
          refine wpAnyH_take (i := 29) (v := ?_) rfl (by kernel_rfl) (by kernel_rfl) (by kernel_rfl) (fun _ _ _ h => h) (Or.inl ⟨by rfl, ?_⟩) hHeld ?_
          rotate_left
          · ((intro w _; go_simp); try with_reducible rfl)
          (try simp only [List.getElem_toArray, List.getElem_cons_succ, List.getElem_cons_zero, Act.put, List.setIfInBounds_toArray, List.set_cons_zero, List.set_cons_succ])
          refine wpAnyH_take (i := 30) (v := ?_) rfl (by kernel_rfl) (by kernel_rfl) (by kernel_rfl) (fun _ _ _ h => h) (Or.inl ⟨by rfl, ?_⟩) hHeld ?_
          rotate_left
          · ((intro w _; go_simp); try with_reducible rfl)
          (try simp only [List.getElem_toArray, List.getElem_cons_succ, List.getElem_cons_zero, Act.put, List.setIfInBounds_toArray, List.set_cons_zero, List.set_cons_succ])
          refine wpAnyH_take (i := 31) (v := ?_) rfl (by kernel_rfl) (by kernel_rfl) (by kernel_rfl) (fun _ _ _ h => h) (Or.inl ⟨by rfl, ?_⟩) hHeld ?_
          rotate_left
          · ((intro w _; go_simp); try with_reducible rfl)
          (try simp only [List.getElem_toArray, List.getElem_cons_succ, List.getElem_cons_zero, Act.put, List.setIfInBounds_toArray, List.set_cons_zero, List.set_cons_succ])
          refine wpAnyH_take (i := 32) (v := ?_) rfl (by kernel_rfl) (by kernel_rfl) (by kernel_rfl) (fun _ _ _ h => h) (Or.inl ⟨by rfl, ?_⟩) hHeld ?_
          rotate_left
          · ((intro w _; go_simp); try with_reducible rfl)
          (try simp only [List.getElem_toArray, List.getElem_cons_succ, List.getElem_cons_zero, Act.put, List.setIfInBounds_toArray, List.set_cons_zero, List.set_cons_succ])
          refine wpAnyH_take (i := 33) (v := ?_) rfl (by kernel_rfl) (by kernel_rfl) (by kernel_rfl) (fun _ _ _ h => h) (Or.inl ⟨by rfl, ?_⟩) hHeld ?_
          rotate_left
          · ((intro w _; go_simp); try with_reducible rfl)
          (try simp only [List.getElem_toArray, List.getElem_cons_succ, List.getElem_cons_zero, Act.put, List.setIfInBounds_toArray, List.set_cons_zero, List.set_cons_succ])
          refine wpAnyH_take (i := 34) (v := ?_) rfl (by kernel_rfl) (by kernel_rfl) (by kernel_rfl) (fun _ _ _ h => h) (Or.inl ⟨by rfl, ?_⟩) hHeld ?_
          rotate_left
          · ((intro w _; go_simp); try with_reducible rfl)
          (try simp only [List.getElem_toArray, List.getElem_cons_succ, List.getElem_cons_zero, Act.put, List.setIfInBounds_toArray, List.set_cons_zero, List.set_cons_succ])
          refine wpAnyH_take (i := 35) (v := ?_) rfl (by kernel_rfl) (by kernel_rfl) (by kernel_rfl) (fun _ _ _ h => h) (Or.inl ⟨by rfl, ?_⟩) hHeld ?_
          rotate_left
          · ((intro w _; go_simp); try with_reducible rfl)
          (try simp only [List.getElem_toArray, List.getElem_cons_succ, List.getElem_cons_zero, Act.put, List.setIfInBounds_toArray, List.set_cons_zero, List.set_cons_succ])
          refine wpAnyH_take (i := 36) (v := ?_) rfl (by kernel_rfl) (by kernel_rfl) (by kernel_rfl) (fun _ _ _ h => h) (Or.inl ⟨by rfl, ?_⟩) hHeld ?_
          rotate_left
          · ((intro w _; go_simp); try with_reducible rfl)
          (try simp only [List.getElem_toArray, List.getElem_cons_succ, List.getElem_cons_zero, Act.put, List.setIfInBounds_toArray, List.set_cons_zero, List.set_cons_succ])
          refine wpAnyH_take (i := 37) (v := ?_) rfl (by kernel_rfl) (by kernel_rfl) (by kernel_rfl) (fun _ _ _ h => h) (Or.inl ⟨by rfl, ?_⟩) hHeld ?_
          rotate_left
          · ((intro w _; go_simp); try with_reducible rfl)
          (try simp only [List.getElem_toArray, List.getElem_cons_succ, List.getElem_cons_zero, Act.put, List.setIfInBounds_toArray, List.set_cons_zero, List.set_cons_succ])
          refine wpAnyH_take (i := 38) (v := ?_) rfl (by kernel_rfl) (by kernel_rfl) (by kernel_rfl) (fun _ _ _ h => h) (Or.inl ⟨by rfl, ?_⟩) hHeld ?_
          rotate_left
          · ((intro w _; go_simp); try with_reducible rfl)
          (try simp only [List.getElem_toArray, List.getElem_cons_succ, List.getElem_cons_zero, Act.put, List.setIfInBounds_toArray, List.set_cons_zero, List.set_cons_succ])
          refine wpAnyH_done (by kernel_rfl) ?_ _
          go_wp2_with fail
          go_meet
          case rel => exact ⟨rfl, rfl⟩
      · have eK : decide (0 ≤ z3) = false := decide_eq_false K
        have HN2 : now = nb nm ++ [y] := by rw [← HNOW.out, if_neg K]
        rw [HN2] at CVN
        clear HN2
        generalize bs8 (nb nm ++ [y]) = SW at *
        refine wp_region_held_drew (S := fun z => Below w9.heap.size w9 z) (by kernel_rfl) (brefl w9).drew (fun hHeld => ?_)
        refine wpAnyH_take (i := 0) (v := ?_) rfl (by kernel_rfl) (by kernel_rfl) (by kernel_rfl) (fun _ _ _ h => h) (Or.inl ⟨by rfl, ?_⟩) hHeld ?_
        rotate_left
        · ((intro w _; go_simp); try with_reducible rfl)
        (try simp only [List.getElem_toArray, List.getElem_cons_succ, List.getElem_cons_zero, Act.put, List.setIfInBounds_toArray, List.set_cons_zero, List.set_cons_succ])
        refine wpAnyH_take (i := 1) (v := ?_) rfl (by kernel_rfl) (by kernel_rfl) (by kernel_rfl) (fun _ _ _ h => h) (Or.inl ⟨by rfl, ?_⟩) hHeld ?_
        rotate_left
        · ((intro w _; go_simp); try with_reducible rfl)
        (try simp only [List.getElem_toArray, List.getElem_cons_succ, List.getElem_cons_zero, Act.put, List.setIfInBounds_toArray, List.set_cons_zero, List.set_cons_succ])
        refine wpAnyH_take (i := 2) (v := ?_) rfl (by kernel_rfl) (by kernel_rfl) (by kernel_rfl) (fun _ _ _ h => h) (Or.inl ⟨by rfl, ?_⟩) hHeld ?_
        rotate_left
        · ((intro w _; go_simp); try with_reducible rfl)
        (try simp only [List.getElem_toArray, List.getElem_cons_succ, List.getElem_cons_zero, Act.put, List.setIfInBounds_toArray, List.set_cons_zero, List.set_cons_succ])
        refine wpAnyH_take (i := 3) (v := ?_) rfl (by kernel_rfl) (by kernel_rfl) (by kernel_rfl) (fun _ _ _ h => h) (Or.inl ⟨by rfl, ?_⟩) hHeld ?_
        rotate_left
        · ((intro w _; go_simp); try with_reducible rfl)
        (try simp only [List.getElem_toArray, List.getElem_cons_succ, List.getElem_cons_zero, Act.put, List.setIfInBounds_toArray, List.set_cons_zero, List.set_cons_succ])
        refine wpAnyH_take (i := 4) (v := ?_) rfl (by kernel_rfl) (by kernel_rfl) (by kernel_rfl) (fun _ _ _ h => h) (Or.inl ⟨by rfl, ?_⟩) hHeld ?_
        rotate_left
        · (intro z hSw; have z1 := CVN.out z hSw; go_simp; try with_reducible rfl)
        (try simp only [List.getElem_toArray, List.getElem_cons_succ, List.getElem_cons_zero, Act.put, List.setIfInBounds_toArray, List.set_cons_zero, List.set_cons_succ])
        refine wpAnyH_take (i := 5) (v := ?_) rfl (by kernel_rfl) (by kernel_rfl) (by kernel_rfl) (fun _ _ _ h => h) (Or.inl ⟨by rfl, ?_⟩) hHeld ?_
        rotate_left
        · ((intro w _; go_simp); try with_reducible rfl)
        (try simp only [List.getElem_toArray, List.getElem_cons_succ, List.getElem_cons_zero, Act.put, List.setIfInBounds_toArray, List.set_cons_zero, List.set_cons_succ])
        refine wpAnyH_take (i := 6) (v := ?_) rfl (by kernel_rfl) (by kernel_rfl) (by kernel_rfl) (fun _ _ _ h => h) (Or.inl ⟨by rfl, ?_⟩) hHeld ?_
        rotate_left
        · (intro z hSw; have z1 := CVW.out z hSw; go_simp; try with_reducible rfl)
        (try simp only [List.getElem_toArray, List.getElem_cons_succ, List.getElem_cons_zero, Act.put, List.setIfInBounds_toArray, List.set_cons_zero, List.set_cons_succ])
        refine wpAnyH_take (i := 7) (v := ?_) rfl (by kernel_rfl) (by kernel_rfl) (by kernel_rfl) (fun _ _ _ h => h) (Or.inl ⟨by rfl, ?_⟩) hHeld ?_
        rotate_left
        · ((intro w _; go_simp); try with_reducible rfl)
        (try simp only [List.getElem_toArray, List.getElem_cons_succ, List.getElem_cons_zero, Act.put, List.setIfInBounds_toArray, List.set_cons_zero, List.set_cons_succ])
        refine wpAnyH_take (i := 8) (v := ?_) rfl (by kernel_rfl) (by kernel_rfl) (by kernel_rfl) (fun _ _ _ h => h) (Or.inl ⟨by rfl, ?_⟩) hHeld ?_
        rotate_left
        · ((intro w _; go_simp); try with_reducible rfl)
        (try simp only [List.getElem_toArray, List.getElem_cons_succ, List.getElem_cons_zero, Act.put, List.setIfInBounds_toArray, List.set_cons_zero, List.set_cons_succ])
        refine wpAnyH_take (i := 9) (v := undef) rfl (by kernel_rfl) (by kernel_rfl) (by kernel_rfl) (fun _ _ _ h => h) (Or.inr ⟨by rfl, rfl⟩) hHeld ?_
        (try simp only [List.getElem_toArray, List.getElem_cons_succ, List.getElem_cons_zero, Act.put, List.setIfInBounds_toArray, List.set_cons_zero, List.set_cons_succ])
        refine wpAnyH_take (i := 10) (v := undef) rfl (by kernel_rfl) (by kernel_rfl) (by kernel_rfl) (fun _ _ _ h => h) (Or.inr ⟨by rfl, rfl⟩) hHeld ?_
        (try simp only [List.getElem_toArray, List.getElem_cons_succ, List.getElem_cons_zero, Act.put, List.setIfInBounds_toArray, List.set_cons_zero, List.set_cons_succ])
        refine wpAnyH_take (i := 11) (v := undef) rfl (by kernel_rfl) (by kernel_rfl) (by kernel_rfl) (fun _ _ _ h => h) (Or.inr ⟨by rfl, rfl⟩) hHeld ?_
        (try simp only [List.getElem_toArray, List.getElem_cons_succ, List.getElem_cons_zero, Act.put, List.setIfInBounds_toArray, List.set_cons_zero, List.set_cons_succ])
        refine wpAnyH_take (i := 12) (v := undef) rfl (by kernel_rfl) (by kernel_rfl) (by kernel_rfl) (fun _ _ _ h => h) (Or.inr ⟨by rfl, rfl⟩) hHeld ?_
        (try simp only [List.getElem_toArray, List.getElem_cons_succ, List.getElem_cons_zero, Act.put, List.setIfInBounds_toArray, List.set_cons_zero, List.set_cons_succ])
        refine wpAnyH_take (i := 13) (v := undef) rfl (by kernel_rfl) (by kernel_rfl) (by kernel_rfl) (fun _ _ _ h => h) (Or.inr ⟨by rfl, rfl⟩) hHeld ?_
        (try simp only [List.getElem_toArray, List.getElem_cons_succ, List.getElem_cons_zero, Act.put, List.setIfInBounds_toArray, List.set_cons_zero, List.set_cons_succ])
        refine wpAnyH_take (i := 14) (v := undef) rfl (by kernel_rfl) (by kernel_rfl) (by kernel_rfl) (fun _ _ _ h => h) (Or.inr ⟨by rfl, rfl⟩) hHeld ?_
        (try simp only [List.getElem_toArray, List.getElem_cons_succ, List.getElem_cons_zero, Act.put, List.setIfInBounds_toArray, List.set_cons_zero, List.set_cons_succ])
        refine wpAnyH_take (i := 15) (v := undef) rfl (by kernel_rfl) (by kernel_rfl) (by kernel_rfl) (fun _ _ _ h => h) (Or.inr ⟨by rfl, rfl⟩) hHeld ?_
        (try simp only [List.getElem_toArray, List.getElem_cons_succ, List.getElem_cons_zero, Act.put, List.setIfInBounds_toArray, List.set_cons_zero, List.set_cons_succ])
        refine wpAnyH_take (i := 16) (v := undef) rfl (by kernel_rfl) (by kernel_rfl) (by kernel_rfl) (fun _ _ _ h => h) (Or.inr ⟨by rfl, rfl⟩) hHeld ?_
        (try simp only [List.getElem_toArray, List.getElem_cons_succ, List.getElem_cons_zero, Act.put, List.setIfInBounds_toArray, List.set_cons_zero, List.set_cons_succ])
        refine wpAnyH_take (i := 17) (v := undef) rfl (by kernel_rfl) (by kernel_rfl) (by kernel_rfl) (fun _ _ _ h => h) (Or.inr ⟨by rfl, rfl⟩) hHeld ?_
        (try simp only [List.getElem_toArray, List.getElem_cons_succ, List.getElem_cons_zero, Act.put, List.setIfInBounds_toArray, List.set_cons_zero, List.set_cons_succ])
        refine wpAnyH_take (i := 18) (v := undef) rfl (by kernel_rfl) (by kernel_rfl) (by kernel_rfl) (fun _ _ _ h => h) (Or.inr ⟨by rfl, rfl⟩) hHeld ?_
        (try simp only [List.getElem_toArray, List.getElem_cons_succ, List.getElem_cons_zero, Act.put, List.setIfInBounds_toArray, List.set_cons_zero, List.set_cons_succ])
        refine wpAnyH_take (i := 19) (v := undef) rfl (by kernel_rfl) (by kernel_rfl) (by kernel_rfl) (fun _ _ _ h => h) (Or.inr ⟨by rfl, rfl⟩) hHeld ?_
        (try simp only [List.getElem_toArray, List.getElem_cons_succ, List.getElem_cons_zero, Act.put, List.setIfInBounds_toArray, List.set_cons_zero, List.set_cons_succ])
        refine wpAnyH_take (i := 20) (v := undef) rfl (by kernel_rfl) (by kernel_rfl) (by kernel_rfl) (fun _ _ _ h => h) (Or.inr ⟨by rfl, rfl⟩) hHeld ?_
        (try simp only [List.getElem_toArray, List.getElem_cons_succ, List.getElem_cons_zero, Act.put, List.setIfInBounds_toArray, List.set_cons_zero, List.set_cons_succ])
        refine wpAnyH_take (i := 21) (v := undef) rfl (by kernel_rfl) (by kernel_rfl) (by kernel_rfl) (fun _ _ _ h => h) (Or.inr ⟨by rfl, rfl⟩) hHeld ?_
        (try simp only [List.getElem_toArray, List.getElem_cons_succ, List.getElem_cons_zero, Act.put, List.setIfInBounds_toArray, List.set_cons_zero, List.set_cons_succ])
        refine wpAnyH_take (i := 22) (v := undef) rfl (by kernel_rfl) (by kernel_rfl) (by kernel_rfl) (fun _ _ _ h => h) (Or.inr ⟨by rfl, rfl⟩) hHeld ?_
        (try simp only [List.getElem_toArray, List.getElem_cons_succ, List.getElem_cons_zero, Act.put, List.setIfInBounds_toArray, List.set_cons_zero, List.set_cons_succ])
        refine wpAnyH_take (i := 23) (v := undef) rfl (by kernel_rfl) (by kernel_rfl) (by kernel_rfl) (fun _ _ _ h => h) (Or.inr ⟨by rfl, rfl⟩) hHeld ?_
        (try simp only [List.getElem_toArray, List.getElem_cons_succ, List.getElem_cons_zero, Act.put, List.setIfInBounds_toArray, List.set_cons_zero, List.set_cons_succ])
        refine wpAnyH_take (i := 24) (v := ?_) rfl (by kernel_rfl) (by kernel_rfl) (by kernel_rfl) (fun _ _ _ h => h) (Or.inl ⟨by rfl, ?_⟩) hHeld ?_
        rotate_left
        · ((intro w _; go_simp); try with_reducible rfl)
        (try simp only [List.getElem_toArray, List.getElem_cons_succ, List.getElem_cons_zero, Act.put, List.setIfInBounds_toArray, List.set_cons_zero, List.set_cons_succ])
        refine wpAnyH_take (i := 25) (v := ?_) rfl (by kernel_rfl) (by kernel_rfl) (by kernel_rfl) (fun _ _ _ h => h) (Or.inl ⟨by rfl, ?_⟩) hHeld ?_
        rotate_left
        · ((intro w _; go_simp); try with_reducible rfl)
        (try simp only [List.getElem_toArray, List.getElem_cons_succ, List.getElem_cons_zero, Act.put, List.setIfInBounds_toArray, List.set_cons_zero, List.set_cons_succ])
        refine wpAnyH_take (i := 26) (v := ?_) rfl (by kernel_rfl) (by kernel_rfl) (by kernel_rfl) (fun _ _ _ h => h) (Or.inl ⟨by rfl, ?_⟩) hHeld ?_
        rotate_left
        · ((intro w _; go_simp); try with_reducible rfl)
        (try simp only [List.getElem_toArray, List.getElem_cons_succ, List.getElem_cons_zero, Act.put, List.setIfInBounds_toArray, List.set_cons_zero, List.set_cons_succ])
        refine wpAnyH_take (i := 27) (v := ?_) rfl (by kernel_rfl) (by kernel_rfl) (by kernel_rfl) (fun _ _ _ h => h) (Or.inl ⟨by rfl, ?_⟩) hHeld ?_
        rotate_left
        · ((intro w _; go_simp); try with_reducible rfl)
        (try simp only [List.getElem_toArray, List.getElem_cons_succ, List.getElem_cons_zero, Act.put, List.setIfInBounds_toArray, List.set_cons_zero, List.set_cons_succ])
        refine wpAnyH_take (i := 28) (v := ?_) rfl (by kernel_rfl) (by kernel_rfl) (by kernel_rfl) (fun _ _ _ h => h) (Or.inl ⟨by rfl, ?_⟩) hHeld ?_
        rotate_left
        · ((intro w _; go_simp); try with_reducible rfl)
        (try simp only [List.getElem_toArray, List.getElem_cons_succ, List.getElem_cons_zero, Act.put, List.setIfInBounds_toArray, List.set_cons_zero, List.set_cons_succ])
        refine wpAnyH_take (i := 29) (v := ?_) rfl (by kernel_rfl) (by kernel_rfl) (by kernel_rfl) (fun _ _ _ h => h) (Or.inl ⟨by rfl, ?_⟩) hHeld ?_
        rotate_left
        · ((intro w _; go_simp); try with_reducible rfl)
        (try simp only [List.getElem_toArray, List.getElem_cons_succ, List.getElem_cons_zero, Act.put, List.setIfInBounds_toArray, List.set_cons_zero, List.set_cons_succ])
        refine wpAnyH_take (i := 30) (v := undef) rfl (by kernel_rfl) (by kernel_rfl) (by kernel_rfl) (fun _ _ _ h => h) (Or.inr ⟨by rfl, rfl⟩) hHeld ?_
        (try simp only [List.getElem_toArray, List.getElem_cons_succ, List.getElem_cons_zero, Act.put, List.setIfInBounds_toArray, List.set_cons_zero, List.set_cons_succ])
        refine wpAnyH_take (i := 31) (v := undef) rfl (by kernel_rfl) (by kernel_rfl) (by kernel_rfl) (fun _ _ _ h => h) (Or.inr ⟨by rfl, rfl⟩) hHeld ?_
        (try simp only [List.getElem_toArray, List.getElem_cons_succ, List.getElem_cons_zero, Act.put, List.setIfInBounds_toArray, List.set_cons_zero, List.set_cons_succ])
        refine wpAnyH_take (i := 32) (v := undef) rfl (by kernel_rfl) (by kernel_rfl) (by kernel_rfl) (fun _ _ _ h => h) (Or.inr ⟨by rfl, rfl⟩) hHeld ?_
        (try simp only [List.getElem_toArray, List.getElem_cons_succ, List.getElem_cons_zero, Act.put, List.setIfInBounds_toArray, List.set_cons_zero, List.set_cons_succ])
        refine wpAnyH_take (i := 33) (v := undef) rfl (by kernel_rfl) (by kernel_rfl) (by kernel_rfl) (fun _ _ _ h => h) (Or.inr ⟨by rfl, rfl⟩) hHeld ?_
        (try simp only [List.getElem_toArray, List.getElem_cons_succ, List.getElem_cons_zero, Act.put, List.setIfInBounds_toArray, List.set_cons_zero, List.set_cons_succ])
        refine wpAnyH_take (i := 34) (v := undef) rfl (by kernel_rfl) (by kernel_rfl) (by kernel_rfl) (fun _ _ _ h => h) (Or.inr ⟨by rfl, rfl⟩) hHeld ?_
        (try simp only [List.getElem_toArray, List.getElem_cons_succ, List.getElem_cons_zero, Act.put, List.setIfInBounds_toArray, List.set_cons_zero, List.set_cons_succ])
        refine wpAnyH_take (i := 35) (v := undef) rfl (by kernel_rfl) (by kernel_rfl) (by kernel_rfl) (fun _ _ _ h => h) (Or.inr ⟨by rfl, rfl⟩) hHeld ?_
        (try simp only [List.getElem_toArray, List.getElem_cons_succ, List.getElem_cons_zero, Act.put, List.setIfInBounds_toArray, List.set_cons_zero, List.set_cons_succ])
        refine wpAnyH_take (i := 36) (v := undef) rfl (by kernel_rfl) (by kernel_rfl) (by kernel_rfl) (fun _ _ _ h => h) (Or.inr ⟨by rfl, rfl⟩) hHeld ?_
        (try simp only [List.getElem_toArray, List.getElem_cons_succ, List.getElem_cons_zero, Act.put, List.setIfInBounds_toArray, List.set_cons_zero, List.set_cons_succ])
        refine wpAnyH_take (i := 37) (v := ?_) rfl (by kernel_rfl) (by kernel_rfl) (by kernel_rfl) (fun _ _ _ h => h) (Or.inl ⟨by rfl, ?_⟩) hHeld ?_
        rotate_left
        · ((intro w _; go_simp); try with_reducible rfl)
        (try simp only [List.getElem_toArray, List.getElem_cons_succ, List.getElem_cons_zero, Act.put, List.setIfInBounds_toArray, List.set_cons_zero, List.set_cons_succ])
        refine wpAnyH_take (i := 38) (v := ?_) rfl (by kernel_rfl) (by kernel_rfl) (by kernel_rfl) (fun _ _ _ h => h) (Or.inl ⟨by rfl, ?_⟩) hHeld ?_
        rotate_left
        · ((intro w _; go_simp); try with_reducible rfl)
        (try simp only [List.getElem_toArray, List.getElem_cons_succ, List.getElem_cons_zero, Act.put, List.setIfInBounds_toArray, List.set_cons_zero, List.set_cons_succ])
        refine wpAnyH_done (by kernel_rfl) ?_ _
        go_wp2_with fail
        go_meet
        case rel => exact ⟨rfl, rfl⟩
    case rest =>
      obtain ⟨rfl, rfl⟩ := hcut
      have P17 := Lib.hid (P9.out.below (brefl w9).drew)
      generalize w9.drew = w17 at *
      go_upto_region 20 with fail
      go_loopw [16] (fun iv wz => ∃ j : Nat, j ≤ gl ∧ iv = .int .i64 (j : Nat) ∧ Pz w w4 wz (fun k => (Value.slice (some ⟨gg, 0, none⟩) gl gc).ownBlock = some k ∨ (Value.slice ua lw uc).ownBlock = some k) d s3) (fun iv _ => gl - (intOf iv).toNat)
      case atStart => exact ⟨0, Nat.zero_le _, rfl, P17.out⟩
      case round =>
        obtain ⟨j, hj, rfl, hp⟩ := hrel
        rename World => wz
        have PZ := Lib.hid hp
        clear hp
        by_cases cj : j < gl
        · have e1 : decide ((j : Int) < (gl : Int)) = true := decide_eq_true (by omega)
          have j1 : (j : Int) < (gl : Int) := by omega
          have j0 : (0 : Int) ≤ (j : Int) := by omega
          obtain ⟨x, hx⟩ : ∃ x, G[j]? = some x := ⟨_, List.getElem?_eq_getElem (by rw [LG.out]; exact cj)⟩
          have HXM : Hid (x ∈ G) := Lib.hid (List.mem_of_getElem? hx)
          have yz := (own_at gl LG.out (row_keep OG.out (fun g hg => PZ.out.keep (.inl hg)) : OwnS wz w.heap.size _ G) hx).1
          have yl := Lib.hid (own_at gl LG.out (row_keep OG.out (fun g hg => PZ.out.keep (.inl hg)) : OwnS wz w.heap.size _ G) hx).2
          have HYZ := Lib.hid yz
          clear hx
          have RD := Read_z (nm := st x) PZ.out
          rw [show (st x).data.toList = x from rfl] at RD
          by_cases cx : x = nm
          · subst cx
            rw [S3R.out.1, S3R.out.2] at RD
            have R1 := Lib.hid RD
            clear RD
            go_upto_region 22 with fail
            go_wp2_with fail
            refine R1.out.mono ?_
            rintro e wy ⟨⟨u2, rfl, ou2⟩, hp2, hb2⟩
            have PY := Lib.hid hp2
            have yy := (hb2.cell (p := ⟨gg, j, none⟩) yl.out).trans HYZ.out
            obtain ⟨ua2, uc2, rfl⟩ := own_form ou2
            clear ou2 hp2 hb2 R1 yz
            go_upto_region 23 with fail
            go_quiet (fail)
            go_wp2_with fail
            exact ⟨⟨j + 1, by omega, by go_num, PY.out.below (bdrew (brefl _) _)⟩, by simp [intOf]; omega⟩
          · obtain ⟨ox, y2, hy2, re2, rd2⟩ := inv_read IV.out HXM.out
            rw [(S3O.out x HXM.out cx).1, (S3O.out x HXM.out cx).2, rd2] at RD
            have R1 := Lib.hid RD
            have OXL := Lib.hid (okN_le ox).1
            have NEb : ((st x).toList == (st nm).toList) = false := by rw [st_toList, st_toList]; simpa using cx
            obtain ⟨xl, hxl⟩ : ∃ xl, x.length = xl := ⟨_, rfl⟩
            have HXL := Lib.hid hxl
            have xl1 : 1 ≤ xl := by have := OXL.out; omega
            have xl2 : xl ≤ 32 := by have := (okN_le ox).2; omega
            have e5 : decide (((xl : Int) + 1) < 2) = false := decide_eq_false (by omega)
            clear RD rd2 re2 hxl
            go_upto_region 22 with fail
            go_wp2_with fail
            refine R1.out.mono ?_
            rintro e wy ⟨⟨u2, rfl, ou2⟩, hp2, hb2⟩
            have PY := Lib.hid hp2
            have yy := (hb2.cell (p := ⟨gg, j, none⟩) yl.out).trans HYZ.out
            obtain ⟨ua2, uc2, rfl⟩ := own_form ou2
            have LB : (nb x ++ [y2]).length = xl + 1 := by rw [List.length_append, nb_len, HXL.out]; rfl
            have SB := out_sl (own_out ou2 (nb1 hy2)) (by rw [LB]; omega)
            have CW : ∀ i, (convert 29 9 (.slice ua2 xl uc2)).run Try.prog (wy.drewN i) = .ok (.string (st x)) (wy.drewN i) := fun i => by
              have q := (sl_front SB (a := xl) (by rw [LB]; omega)).conv (bdrew (brefl wy) i)
              rwa [List.take_left' (by rw [nb_len, HXL.out]), bs8_nb] at q
            have c5 : (xl : Int) + 1 ≤ (uc2 : Int) := by obtain ⟨_, _, _, _, e, h1, _⟩ := SB; cases e; omega
            have c6 : (uc2 : Int) ≤ 9223372036854775807 := by obtain ⟨_, _, _, _, e, _, h1, _⟩ := SB; cases e; omega
            rw [LB]
            clear ou2 hp2 hb2 R1 yz SB LB
            go_upto_region 23 with fail
            go_quiet (fail)
            go_wp2_with fail
            exact ⟨⟨j + 1, by omega, by go_num, PY.out.below (bdrew (brefl _) _)⟩, by simp [intOf]; omega⟩
        · have e1 : decide ((j : Int) < (gl : Int)) = false := decide_eq_false (by omega)
          have WF2 := Write_z (nm := st nm) PZ.out (by have := S3F.out; omega) (SD.out.below PZ.out.bel) VD.out
          rw [show (st nm).data.toList = nm from rfl, free_write S3A.out.1 S3A.out.2 ONM.out (by rw [LD.out]; omega)] at WF2
          have W2 := Lib.hid WF2
          clear WF2
          go_wp2_with fail
          refine W2.out.mono ?_
          rintro e wv ⟨rfl, hp⟩
          have PV := Lib.hid hp.bel
          clear hp W2
          go_wp2_with fail
          go_ret
          exact ⟨rfl, PV.out⟩
set_option maxRecDepth 100000 in
theorem lifted (os : Os) (started : os.Started) (H : Type) (enc : TypeId × Value → H) :
    ReturnsInHanded {} Try.checked os 5 .any (Rows.diskTornSpec.pre6 enc Try.prog Try.f5 Rows.diskTornRow.domain false) (Rows.diskTornSpec.post enc Try.prog Try.f5 false true false false) := by
  refine returnsInHanded_of_change_sized (C := Try.checked) own started (by kernel_rfl) Try.func5
    (ChangeSpec.witness6 (enc := enc) (C := Try.checked) false ⟨#[], #[.slice none 0 0, .slice none 0 0, .int .i64 0, .int .i64 0], []⟩ 8 (by kernel_rfl) (by kernel_rfl) (by kernel_rfl) (by kernel_rfl)) ?_
  intro W base args ds gs before hval0 hW hcnd hsz0 _
  have hsz : (DataW.weightsEach Try.prog (Try.f5.params.toList ++ Rows.diskTornSpec.plain.varTypes Try.prog) (ds ++ gs)).all (· ≤ reachBytes) = true := hsz0
  have hval : ∀ (j : Nat) t v, Try.f5.params[j]? = some t → args[j]? = some v → Value.okWide Try.prog W .any base t v := hval0
  have hW' := hW
  obtain ⟨p, q, hA0, hV, rfl, hfz, hnd⟩ := hW
  have hA : DataW.TrodAll enc Try.prog W 0 (fun _ => true) true Try.f5.params.toList args.toList ds p := hA0
  rw [Try.params5] at hA hval hsz
  obtain ⟨v0, vs0, d0, ds0, p0, q0, hargs, rfl, rfl, h0, r0⟩ := trodAll_cons hA
  obtain ⟨v1, vs1, d1, ds1, p1, q1, rfl, rfl, rfl, h1, r1⟩ := trodAll_cons r0
  obtain ⟨v2, vs2, d2, ds2, p2, q2, rfl, rfl, rfl, h2, r2⟩ := trodAll_cons r1
  obtain ⟨v3, vs3, d3, ds3, p3, q3, rfl, rfl, rfl, h3, r3⟩ := trodAll_cons r2
  obtain ⟨rfl, rfl, rfl⟩ := trodAll_nil r3
  obtain rfl : args = #[v0, v1, v2, v3] := by cases args; simp_all
  obtain ⟨rfl, rfl⟩ := trodVars_none hV
  have h0k := h0
  have hlt0 : ∀ x ∈ p0, x.block < W.heap.size := fun x hx => by have := hW'.lt x (by simp [hx]); simpa using this
  have hb0 : ∀ y ∈ DataW.weights Try.prog 41 d0, y ≤ reachBytes := fun y hy => by
    have := List.all_eq_true.1 hsz y (DataW.weights_mem_each (j := 0) rfl rfl y hy)
    simpa using this
  have h1k := h1
  have hlt1 : ∀ x ∈ p1, x.block < W.heap.size := fun x hx => by have := hW'.lt x (by simp [hx]); simpa using this
  have hb1 : ∀ es sp, d1 = .slice es sp → (es.length + sp.length) * Try.prog.bytesOf 5 ≤ reachBytes := by
    intro es sp he
    exact sized_slice hsz (j := 1) (t := 29) (e := 5) rfl (by rw [he]; rfl) Try.underlying29
  have h2k := h2
  have hlt2 : ∀ x ∈ p2, x.block < W.heap.size := fun x hx => by have := hW'.lt x (by simp [hx]); simpa using this
  have h3k := h3
  have hlt3 : ∀ x ∈ p3, x.block < W.heap.size := fun x hx => by have := hW'.lt x (by simp [hx]); simpa using this
  obtain ⟨L0, g0⟩ := open_strs (hval 0 41 v0 rfl rfl) h0 hb0
  obtain ⟨n1, f1, g1⟩ := open_bytes (hval 1 29 v1 rfl rfl) h1 hb1
  obtain ⟨z2, rfl, _, _, g2⟩ := open_int Try.underlying3 (hval 2 3 v2 rfl rfl) h2
  obtain ⟨z3, rfl, _, _, g3⟩ := open_int Try.underlying3 (hval 3 3 v3 rfl rfl) h3
  clear hA0 hval0
  simp only [List.append_nil] at hW'
  refine (walk v0 L0 v1 n1 f1 z2 z3 W g0 g1 g2 g3).mono fun e W' ⟨he, hg⟩ => ?_
  subst he
  exact ⟨_, rfl, _, _, _, [], _, [], hW', trodAll_cons_mk (shut_bool Try.underlying4 _) trodAll_mk0,
    (trodAll_cons_mk (Below.trod laidOut (by kernel_rfl) (of_decide_eq_true (by kernel_rfl)) h0k hg hlt0) (trodAll_cons_mk (Below.trod laidOut (by kernel_rfl) (of_decide_eq_true (by kernel_rfl)) h1k hg hlt1) (trodAll_cons_mk (Below.trod laidOut (by kernel_rfl) (of_decide_eq_true (by kernel_rfl)) h2k hg hlt2) (trodAll_cons_mk (Below.trod laidOut (by kernel_rfl) (of_decide_eq_true (by kernel_rfl)) h3k hg hlt3) trodAll_mk0)))), rfl, hg.frame _, fun h => nomatch h⟩

theorem over : Rows.diskTornRow.holds Try.pinned (OpenSpec.ofChange Rows.diskTornSpec) :=
  OpenClaim.holds_of_wide 5 Try.f5 rfl rfl rfl rfl rfl rfl rfl ⟨rfl, rfl, rfl, rfl, rfl⟩ rfl rfl rfl rfl rfl (by kernel_rfl) Try.func5 (by kernel_rfl)
    (of_decide_eq_true (by kernel_rfl)) (by unfold Func.isWrapper; first | (rw [if_pos (by decide +kernel)]; kernel_rfl) | (rw [if_neg (by decide +kernel)]; exact ⟨rfl, rfl⟩))
    (fun os started H enc _ => lifted os started H enc)

theorem proved : Rows.DiskTornSaid :=
  over
end Go.Proofs.Ytpnphmfpandmkaa.diskTorn

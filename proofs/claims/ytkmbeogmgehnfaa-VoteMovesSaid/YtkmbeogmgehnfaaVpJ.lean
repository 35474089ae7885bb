/-
  The program's order of candidates; slices.SortedFunc; the candidates' numbers sorted.
  Conditions: none but that the candidates and the numbers lie in memory.
-/
import Derived.Test.YtkmbeogmgehnfaaShelfV
import Derived.Test.YtkmbeogmgehnfaaVpC
import Derived.Test.YtkmbeogmgehnfaaVpI
import Derived.Test.YtkmbeogmgehnfaaVoG
import Derived.Shelf.SlSortCmp.Whole1
import Derived.Sort.OwnSortedInts
import Derived.Deep.RegionHeld3
namespace Go.Proofs.Ytkmbeogmgehnfaa.Vo
open Go.Shelf Go.RowKit Go.ChangeShapes Go.WideShapes Go.ChangeAt Go.Joins Fl Hu
set_option linter.unusedVariables false
set_option linter.unusedSimpArgs false

/-- nothing that lay is turned; the draws go on. -/
def Gr (w w' : World) : Prop := Below w.heap.size w w' ∧ w.drawn ≤ w'.drawn
theorem Gr.rf (w : World) : Gr w w := ⟨brefl w, Nat.le_refl _⟩
theorem Gr.tr {a b c : World} (h : Gr a b) (k : Gr b c) : Gr a c := ⟨bstep h.1 k.1, Nat.le_trans h.2 k.2⟩
theorem Gr.alloc {a b : World} (h : Gr a b) (o : Obj) : Gr a (b.alloc o) := ⟨balloc h.1 o, h.2⟩
theorem Gr.drew {a b : World} (h : Gr a b) : Gr a b.drew := ⟨h.1.drew, Nat.le_succ_of_le h.2⟩
theorem gr_grow {w w' : World} (h : Gr w w') : ∃ q os', w' = Go.Sort.grow (w.drewN q) os' := by
  obtain ⟨⟨h1, h2, h3, h4, h5⟩, hd⟩ := h
  obtain ⟨heap, tape, drawn, os, output⟩ := w
  obtain ⟨heap', tape', drawn', os', output'⟩ := w'
  simp only at h1 h2 h3 h4 h5 hd
  subst h1
  subst h2
  subst h3
  refine ⟨drawn' - drawn, heap'.extract heap.size heap'.size, ?_⟩
  have e1 : heap' = heap ++ heap'.extract heap.size heap'.size := by
    refine Array.ext_getElem? fun k => ?_
    by_cases c : k < heap.size
    · rw [Array.getElem?_append_left c]
      exact h5 k c
    · rw [Array.getElem?_append_right (by omega), Array.getElem?_extract]
      by_cases c2 : k < heap'.size
      · rw [if_pos (by omega), show heap.size + (k - heap.size) = k by omega]
      · rw [if_neg (by omega), Array.getElem?_eq_none (by omega)]
  have e2 : drawn' = drawn + (drawn' - drawn) := by omega
  show World.mk heap' tape' drawn' os' output' = World.mk (heap ++ heap'.extract heap.size heap'.size) tape' (drawn + (drawn' - drawn)) os' output'
  rw [← e1, ← e2]
theorem badness_g (c : Cd) (w : World) (h : okC c) : Calls Try.prog 50 #[CV c] w fun e w' => e = .returned (.int .i64 (key c)) ∧ Gr w w' := by
  obtain ⟨k1, k2⟩ := key_in h
  obtain ⟨o, d, j, s⟩ := c
  simp only at k1 k2
  have B := Lib.hid ((Gr.rf w).alloc (.cells #[.int .i64 o, .int .i64 d, .int .i64 j, .int .i64 s] 44))
  show Calls Try.prog 50 #[.agg #[.int .i64 o, .int .i64 d, .int .i64 j, .int .i64 s]] w fun e w' => e = .returned (.int .i64 (s * 1572864 + d)) ∧ Gr w w'
  clear h
  go_enter Try.func50, Try.ntmps50
  go_wp2_with fail
  go_ret
  exact ⟨rfl, B.out⟩
theorem Or_new (w : World) (x y : Int) (t : TypeId) : Calls Try.prog 48 #[.slice (some ⟨w.heap.size, 0, none⟩) 2 2] (w.alloc (.cells #[.int .i64 x, .int .i64 y] t)) fun e w' => e = .returned (.int .i64 (if x = 0 then y else x)) ∧ w' = w.alloc (.cells #[.int .i64 x, .int .i64 y] t) := by
  obtain ⟨c0, c1⟩ := blk2 (new2 w x y t) (brefl _)
  exact Or_c c0 c1
/-- how two numbers of candidates compare. -/
def cfN (L : List Cd) (i j : Nat) : Int := if cmpI (key (cd L i)) (key (cd L j)) = 0 then cmpI i j else cmpI (key (cd L i)) (key (cd L j))
theorem cfN_lt (L : List Cd) (i j : Nat) : decide (cfN L i j < 0) = decide (Ah L i j) := by
  apply decide_eq_decide.2
  unfold cfN Ah cmpI
  generalize key (cd L i) = x
  generalize key (cd L j) = y
  (repeat' split) <;> constructor <;> intro q <;> omega
set_option maxRecDepth 100000 in
set_option maxHeartbeats 8000000 in
theorem order_c {W : World} {B b off m cap : Nat} {L : List Cd} (ok : okL L) (hl : L.length = m) (hcap : m ≤ cap) (hcap2 : cap ≤ 9223372036854775807) {i j : Nat} (hi : i < m) (hj : j < m)
    (hB : W.cell? ⟨B, 0, none⟩ = some (.slice (some ⟨b, off, none⟩) m cap)) (hBl : B < W.heap.size) (hL : Lh W b off L) :
    Calls Try.prog 47 #[.int .i64 (i : Nat), .int .i64 (j : Nat), .pointer (some ⟨B, 0, none⟩)] W fun e w' => e = .returned (.int .i64 (cfN L i j)) ∧ Gr W w' := by
  have n32 := ok.2
  rw [hl] at n32
  have hx := cd_at (L := L) (i := i) (by omega)
  have hy := cd_at (L := L) (i := j) (by omega)
  have okx := cd_ok ok (i := i) (by omega)
  have oky := cd_ok ok (i := j) (by omega)
  have BX := Lib.hid (fun w => badness_g (cd L i) w okx)
  have BY := Lib.hid (fun w => badness_g (cd L j) w oky)
  have KP : Hid (∀ W', Gr W W' → W'.cell? ⟨B, 0, none⟩ = some (.slice (some ⟨b, off, none⟩) m cap) ∧ W'.cell? ⟨b, off + i * 4, none⟩ = some (.int .i64 (cd L i).off) ∧ W'.cell? ⟨b, off + i * 4 + 1, none⟩ = some (.int .i64 (cd L i).dist) ∧ W'.cell? ⟨b, off + i * 4 + 2, none⟩ = some (.int .i64 (cd L i).jit) ∧ W'.cell? ⟨b, off + i * 4 + 3, none⟩ = some (.int .i64 (cd L i).str) ∧ W'.cell? ⟨b, off + j * 4, none⟩ = some (.int .i64 (cd L j).off) ∧ W'.cell? ⟨b, off + j * 4 + 1, none⟩ = some (.int .i64 (cd L j).dist) ∧ W'.cell? ⟨b, off + j * 4 + 2, none⟩ = some (.int .i64 (cd L j).jit) ∧ W'.cell? ⟨b, off + j * 4 + 3, none⟩ = some (.int .i64 (cd L j).str)) := Lib.hid fun W' g => by
    obtain ⟨z1, z2, z3, z4⟩ := (hL.below g.1).four hx
    obtain ⟨u1, u2, u3, u4⟩ := (hL.below g.1).four hy
    exact ⟨(g.1.cell (p := ⟨B, 0, none⟩) hBl).trans hB, z1, z2, z3, z4, u1, u2, u3, u4⟩
  have CF : Hid (cfN L i j = if cmpI (key (cd L i)) (key (cd L j)) = 0 then cmpI i j else cmpI (key (cd L i)) (key (cd L j))) := Lib.hid rfl
  rw [CF.out]
  have CT := Lib.hid (fun w => compare_c (key (cd L i)) (key (cd L j)) w)
  have CI := Lib.hid (fun w => compareI_c (i : Int) (j : Int) w)
  generalize cmpI (key (cd L i)) (key (cd L j)) = r1 at *
  generalize cmpI (i : Int) (j : Int) = r2 at *
  have OC := Lib.hid (fun w => Or_new w r1 r2 3)
  obtain ⟨r, hr⟩ : ∃ r, (if r1 = 0 then r2 else r1) = r := ⟨_, rfl⟩
  rw [hr] at OC ⊢
  generalize key (cd L i) = ki at *
  generalize key (cd L j) = kj at *
  generalize cd L i = ci at *
  generalize cd L j = cj at *
  obtain ⟨xo, xd, xt, xs⟩ := ci
  obtain ⟨yo, yd, yt, ys⟩ := cj
  simp only at KP
  replace BX : Hid (∀ w, Calls Try.prog 50 #[.agg #[.int .i64 xo, .int .i64 xd, .int .i64 xt, .int .i64 xs]] w fun e w' => e = .returned (.int .i64 ki) ∧ Gr w w') := BX
  replace BY : Hid (∀ w, Calls Try.prog 50 #[.agg #[.int .i64 yo, .int .i64 yd, .int .i64 yt, .int .i64 ys]] w fun e w' => e = .returned (.int .i64 kj) ∧ Gr w w') := BY
  have m0 : (0 : Int) ≤ (m : Int) := by omega
  have m1 : (m : Int) ≤ 32 := by omega
  have m2 : (m : Int) ≤ (cap : Int) := by omega
  have m3 : (cap : Int) ≤ 9223372036854775807 := by omega
  have i0 : (0 : Int) ≤ (i : Int) := by omega
  have i1 : (i : Int) < (m : Int) := by omega
  have j0 : (0 : Int) ≤ (j : Int) := by omega
  have j1 : (j : Int) < (m : Int) := by omega
  have hb0 : Gr W W.drew := (Gr.rf W).drew
  clear hx hy okx oky hB hL hr ok hl
  go_enter Try.func47, Try.ntmps47
  go_upto_region 1 with fail
  go_region_held3 (fun W' => W'.cell? ⟨B, 0, none⟩ = some (.slice (some ⟨b, off, none⟩) m cap) ∧ W'.cell? ⟨b, off + i * 4, none⟩ = some (.int .i64 xo) ∧ W'.cell? ⟨b, off + i * 4 + 1, none⟩ = some (.int .i64 xd) ∧ W'.cell? ⟨b, off + i * 4 + 2, none⟩ = some (.int .i64 xt) ∧ W'.cell? ⟨b, off + i * 4 + 3, none⟩ = some (.int .i64 xs) ∧ W'.cell? ⟨b, off + j * 4, none⟩ = some (.int .i64 yo) ∧ W'.cell? ⟨b, off + j * 4 + 1, none⟩ = some (.int .i64 yd) ∧ W'.cell? ⟨b, off + j * 4 + 2, none⟩ = some (.int .i64 yt) ∧ W'.cell? ⟨b, off + j * 4 + 3, none⟩ = some (.int .i64 ys))
    (first | exact KP.out _ (by assumption) | exact KP.out _ (Gr.alloc (by assumption) _))
    (first | (go_at_call 50; (with_reducible refine (BX.out _).mono ?_); rintro e w4 ⟨rfl, hg⟩; replace hg := Gr.tr (by assumption : Gr W _) hg) | (go_at_call 50; (with_reducible refine (BY.out _).mono ?_); rintro e w4 ⟨rfl, hg⟩; replace hg := Gr.tr (by assumption : Gr W _) hg) | (go_at_call 49; (with_reducible refine (CT.out _).mono ?_); rintro e w4 ⟨rfl, rfl⟩) | (go_at_call 51; (with_reducible refine (CI.out _).mono ?_); rintro e w4 ⟨rfl, rfl⟩) | (go_at_call 48; (with_reducible refine (OC.out _).mono ?_); rintro e w4 ⟨rfl, rfl⟩))
  all_goals
    go_wp2_with fail
    go_ret
    exact ⟨rfl, Gr.alloc (by assumption) _⟩
/-- numbers below m, as cells. -/
def encF (m : Nat) (x : Fin m) : Value := .int .i64 (x.val : Int)
def cfF (L : List Cd) (m : Nat) (x y : Fin m) : Int := cfN L x.val y.val
theorem ltF (L : List Cd) (m : Nat) (x y : Fin m) : ltOf (cfF L m) x y = decide (Ah L x.val y.val) := cfN_lt L x.val y.val
theorem swoF (L : List Cd) (m : Nat) : Go.Sort.SWO (ltOf (cfF L m)) where
  irrefl x := by rw [ltF]; exact decide_eq_false fun h => h.irr
  trans x y z h1 h2 := by
    rw [ltF, decide_eq_true_iff] at *
    exact h1.tr h2
  ntrans x y z h1 h2 := by
    rw [ltF, decide_eq_false_iff_not] at *
    unfold Ah at *
    omega
def finL (m : Nat) (N : List Nat) (h : ∀ n ∈ N, n < m) : List (Fin m) := N.pmap (fun n q => (⟨n, q⟩ : Fin m)) h
theorem finL_val (m : Nat) (N : List Nat) (h : ∀ n ∈ N, n < m) : (finL m N h).map Fin.val = N := by
  unfold finL
  rw [List.map_pmap]
  induction N with
  | nil => rfl
  | cons x r ih => rw [List.pmap_cons, ih (fun n hn => h n (List.mem_cons_of_mem _ hn))]
theorem finL_len (m : Nat) (N : List Nat) (h : ∀ n ∈ N, n < m) : (finL m N h).length = N.length := by unfold finL; exact List.length_pmap ..
theorem putCells_fin {m : Nat} [Inhabited (Fin m)] (d : Array (Fin m)) (c : Array Value) : Go.Sort.putCells (encF m) 0 d c = Go.Sort.putCells (Value.int .i64) 0 (ints (d.toList.map Fin.val)).toArray c := by
  unfold Go.Sort.putCells
  have hs : (ints (d.toList.map Fin.val)).toArray.size = d.size := by simp [ints]
  rw [hs]
  congr 1
  funext k x
  by_cases q : 0 ≤ k ∧ k < 0 + d.size
  · rw [if_pos q, if_pos q]
    have hk : k - 0 < d.size := by omega
    rw [getElem!_pos d (k - 0) hk, getElem!_pos _ (k - 0) (by rw [hs]; exact hk)]
    simp [encF, ints]
  · rw [if_neg q, if_neg q]
theorem sortWorld_fin {m : Nat} [Inhabited (Fin m)] (w : World) (g n : Nat) (d : Array (Fin m)) (os : Array Obj) : sortWorld (encF m) w g 0 n d os = Go.Sort.grow (Go.Sort.putRow (Value.int .i64) (Go.Sort.ahead w n) g 0 (ints (d.toList.map Fin.val)).toArray) os := by
  unfold sortWorld Go.Sort.putRow
  exact congrArg (fun f => Go.Sort.grow (Go.Sort.mapBlock _ g f) os) (funext fun c => putCells_fin d c)
theorem sortWorld_below {m : Nat} [Inhabited (Fin m)] {Bb : Nat} {w : World} {g n : Nat} {d : Array (Fin m)} {os : Array Obj} (hg : Bb ≤ g) (hs : Bb ≤ w.heap.size) : Below Bb w (sortWorld (encF m) w g 0 n d os) := by
  rw [sortWorld_fin]
  exact (Below.refl Bb w).grown (Go.grownBy_sortedI _) hs (fun j hj => by cases hj; exact hg)
set_option maxRecDepth 100000 in
set_option maxHeartbeats 4000000 in
theorem SortFunc_c {w0 w : World} {B b off m cap : Nat} {L : List Cd} {v : Value} {N : List Nat} (ok : okL L) (hl : L.length = m) (hm : 0 < m) (hcap : m ≤ cap) (hcap2 : cap ≤ 9223372036854775807) (hN : ∀ n ∈ N, n < m) (nd : N.Nodup) (hp : 0 < N.length) (h32 : N.length ≤ 32)
    (hb0 : Below w0.heap.size w0 w) (hB : w0.cell? ⟨B, 0, none⟩ = some (.slice (some ⟨b, off, none⟩) m cap)) (hBl : B < w0.heap.size) (hL : Lh w0 b off L) (ho : OwnI w w0.heap.size v (ints N)) :
    Calls Try.prog 57 #[v, .func (.func 47) #[] #[.pointer (some ⟨B, 0, none⟩)]] w fun e w' => e = .returned (.tuple #[]) ∧ (∃ T, Srt L N T ∧ OwnI w' w0.heap.size v (ints T)) ∧ Below w0.heap.size w0 w' := by
  haveI : Inhabited (Fin m) := ⟨⟨0, hm⟩⟩
  rcases ho.2 with ⟨_, h0⟩ | ⟨g, c, cur, rfl, hbase, hgb, r1, r2, r3, r4⟩
  · rw [ints_len] at h0; omega
  have hgl : g < w.heap.size := (Array.getElem?_eq_some_iff.1 hgb).1
  have hds : (finL m N hN).toArray.size = (ints N).length := by simp [finL_len, ints_len]
  have eg : ∀ args w, (callFunc 47 args).run Try.prog w = .ok (.enter 47 args) w := enters_of Try.func47 (by kernel_rfl) rfl
  have hH : Go.Sort.Holds (encF m) w g 0 (finL m N hN).toArray := by
    intro j hj
    rw [hds, ints_len] at hj
    have hj' : j < (finL m N hN).length := by rw [finL_len]; exact hj
    have q := ho.cell rfl (ints_at (List.getElem?_eq_getElem hj))
    rw [Nat.zero_add]
    refine ⟨?_, q.2⟩
    rw [getElem!_pos _ j (by rw [hds, ints_len]; exact hj)]
    refine q.1.trans (congrArg some (congrArg (fun n : Nat => Value.int .i64 (n : Int)) ?_))
    have e : ((finL m N hN).map Fin.val)[j]? = N[j]? := by rw [finL_val]
    rw [List.getElem?_map, List.getElem?_eq_getElem hj', List.getElem?_eq_getElem hj] at e
    simp only [Option.map_some, Option.some.injEq] at e
    simpa using e.symm
  have hcmp : CmpLays1 Try.prog 47 #[.pointer (some ⟨B, 0, none⟩)] (encF m) (cfF L m) g 0 (finL m N hN).toArray.size w := by
    intro n os dk _ x y
    have hb : Below w0.heap.size w0 (sortWorld (encF m) w g 0 n dk os) := hb0.trans (sortWorld_below hbase hb0.size)
    refine (order_c (B := B) (b := b) (off := off) (cap := cap) ok hl hcap hcap2 x.isLt y.isLt ((hb.cell (p := ⟨B, 0, none⟩) hBl).trans hB) (Nat.lt_of_lt_of_le hBl hb.size) (hL.below hb)).mono ?_
    rintro e w' ⟨rfl, hg⟩
    exact ⟨rfl, gr_grow hg⟩
  have hcon := Any.slices_SortFunc sortI (encF m) (fun _ => rfl) (cfF L m) (swoF L m) 47 #[.pointer (some ⟨B, 0, none⟩)] g 0 c (finL m N hN).toArray w eg hcmp hH hgl (by rw [hds, ints_len]; omega)
  change Calls Try.prog 57 _ _ _ at hcon
  rw [hds] at hcon
  refine hcon.mono ?_
  rintro e w' ⟨rfl, d', n, os, ⟨hp1, _, hp2⟩, hs2, rfl⟩
  have hz : d'.size = N.length := by rw [hp1, hds, ints_len]
  have hperm : d'.toList.Perm (finL m N hN) := by
    have e1 : (d'.extract 0 (ints N).length).toList = d'.toList := by rw [ints_len, ← hz]; simp
    have e2 : ((finL m N hN).toArray.extract 0 (ints N).length).toList = finL m N hN := by rw [ints_len, ← finL_len m N hN]; simp
    rwa [e1, e2] at hp2
  have hpv : (d'.toList.map Fin.val).Perm N := by
    have := hperm.map Fin.val
    rwa [finL_val] at this
  have hb := hb0.trans (sortWorld_below (w := w) (g := g) (n := n) (d := d') (os := os) hbase hb0.size)
  refine ⟨rfl, ⟨d'.toList.map Fin.val, ⟨hpv, ?_⟩, ?_⟩, hb⟩
  · refine List.pairwise_iff_getElem.2 fun i j hi hj hij => ?_
    have hi' : i < d'.size := by simpa using hi
    have hj' : j < d'.size := by simpa using hj
    have q := hs2 i j (Nat.zero_le _) hij (by rw [ints_len, ← hz]; exact hj')
    rw [ltF, decide_eq_false_iff_not, getElem!_pos d' i hi', getElem!_pos d' j hj'] at q
    have ne : ¬ (d'[j].val = d'[i].val) := fun e => by
      have nd' : (d'.toList.map Fin.val).Nodup := hpv.nodup_iff.2 nd
      have := (List.pairwise_iff_getElem.1 nd') i j hi hj hij
      simp only [List.getElem_map, Array.getElem_toList] at this
      exact this e.symm
    have q2 := Ah.tot q ne
    simpa using q2
  · rw [sortWorld_fin]
    have hl2 : (ints (d'.toList.map Fin.val)).length = (ints N).length := by rw [ints_len, ints_len, hpv.length_eq]
    have := Go.ownsRow_sortedI (n := n) (os := os) (ts := ints (d'.toList.map Fin.val)) hl2 hbase hgb r1 r2 r3
    unfold OwnI
    rw [hl2]
    exact this
set_option maxRecDepth 100000 in
set_option maxHeartbeats 4000000 in
theorem SortedFunc_c {w : World} {B B2 b off m n cap sc : Nat} {sa : Option Addr} {L : List Cd} {N : List Nat} (ok : okL L) (hl : L.length = m) (hm : 0 < m) (hcap : m ≤ cap) (hcap2 : cap ≤ 9223372036854775807) (hN : ∀ n ∈ N, n < m) (nd : N.Nodup) (hsn : N.length = n) (hp : 0 < n) (h32 : n ≤ 32)
    (hB : w.cell? ⟨B, 0, none⟩ = some (.slice (some ⟨b, off, none⟩) m cap)) (hBl : B < w.heap.size) (hL : Lh w b off L) (hB2 : w.cell? ⟨B2, 0, none⟩ = some (.slice sa n sc)) (hBl2 : B2 < w.heap.size) (hs : Is w (.slice sa n sc) (ints N)) :
    Calls Try.prog 45 #[.func (.func 58) #[] #[.pointer (some ⟨B2, 0, none⟩)], .func (.func 47) #[] #[.pointer (some ⟨B, 0, none⟩)]] w fun e w' => (∃ v T, e = .returned v ∧ Srt L N T ∧ OwnI w' w.heap.size v (ints T)) ∧ Below w.heap.size w w' := by
  have CC := Lib.hid (Collect_c (S := ints N) (by rw [ints_len]; exact hsn) (by omega) hBl2 hB2 hs)
  have SC := Lib.hid (fun (w' : World) v (hb : Below w.heap.size w w') (ho : OwnI w' w.heap.size v (ints N)) => SortFunc_c ok hl hm hcap hcap2 hN nd (by omega) (by omega) hb hB hBl hL ho)
  clear hB hL hB2 hs ok hl hN nd hsn
  go_enter Try.func45, Try.ntmps45
  go_wp2_with fail
  refine CC.out.mono ?_
  rintro e w2 ⟨⟨v, rfl, ho⟩, hb⟩
  have S2 := Lib.hid (SC.out w2 v hb ho)
  obtain ⟨va, vc, rfl⟩ := ho.form
  clear ho hb CC SC
  go_wp2_with fail
  refine S2.out.mono ?_
  rintro e w3 ⟨rfl, ⟨T, st, ho⟩, hb⟩
  have O3 := Lib.hid ho
  have ST := Lib.hid st
  have B3 := Lib.hid hb
  clear ho st hb S2
  go_wp2_with fail
  go_ret
  exact ⟨⟨_, T, rfl, ST.out, O3.out⟩, B3.out⟩
set_option maxRecDepth 100000 in
set_option maxHeartbeats 4000000 in
theorem sorted_c {w : World} {v sv : Value} {L : List Cd} {N : List Nat} (h : Cs w v L) (hs : Is w sv (ints N)) (ok : okL L) (hN : ∀ n ∈ N, n < L.length) (nd : N.Nodup) (hp : 0 < N.length) :
    Calls Try.prog 24 #[v, sv] w fun e w' => (∃ u T, e = .returned u ∧ Srt L N T ∧ OwnI w' w.heap.size u (ints T)) ∧ Below w.heap.size w w' := by
  have h32 : N.length ≤ 32 := Nat.le_trans (nodup_le hN nd) ok.2
  obtain ⟨q0, hq0⟩ : ∃ q, N[0]? = some q := ⟨_, List.getElem?_eq_getElem hp⟩
  have hm : 0 < L.length := by have := hN q0 (List.mem_of_getElem? hq0); omega
  obtain ⟨a, cap, rfl, c1, c2, c3⟩ := h
  obtain ⟨b, off, rfl, hL⟩ := c3 hm
  have HZ := Lib.hid hs
  obtain ⟨sa, sc, rfl, p1, p2, _⟩ := hs
  rw [ints_len] at p1 HZ ⊢
  have B0 := Lib.hid (balloc (brefl w) (.cells #[.slice (some ⟨b, off, none⟩) L.length cap] 22))
  have N0 : Hid (Blk (w.alloc (.cells #[.slice (some ⟨b, off, none⟩) L.length cap] 22)) w.heap.size [.slice (some ⟨b, off, none⟩) L.length cap]) := Lib.hid (Blk.new' w #[.slice (some ⟨b, off, none⟩) L.length cap] _)
  have VC := Lib.hid (fun w => Values_c sa N.length sc w)
  have SC := Lib.hid (fun (w1 : World) (hb : Below w.heap.size w w1) (B2 : Nat) (hB : w1.cell? ⟨w.heap.size, 0, none⟩ = some (.slice (some ⟨b, off, none⟩) L.length cap)) (hBl : w.heap.size < w1.heap.size) (hB2 : w1.cell? ⟨B2, 0, none⟩ = some (.slice sa N.length sc)) (hBl2 : B2 < w1.heap.size) => SortedFunc_c ok rfl hm c1 c2 hN nd rfl hp h32 hB hBl (hL.below hb) hB2 hBl2 (HZ.out.below hb))
  clear hL ok hN nd hq0
  go_enter Try.func24, Try.ntmps24
  go_upto_region 1 with fail
  generalize L.length = m at *
  generalize N.length = n at *
  generalize w.alloc (.cells #[.slice (some ⟨b, off, none⟩) m cap] 22) = w0 at *
  go_wp2_with fail
  refine (VC.out _).mono ?_
  rintro e w1 ⟨rfl, e1⟩
  have hb1 : Below w0.heap.size w0 w1 := e1 ▸ balloc (brefl w0) _
  have B1 := Lib.hid (bstep B0.out hb1)
  have N1 := Lib.hid (N0.out.below hb1)
  have S1 := Lib.hid (SC.out w1 B1.out w0.heap.size (N1.out.2 0 _ rfl).1 N1.out.1 (by rw [e1]; exact cell_one_new w0 _ _ 0 _ rfl) (by rw [e1]; simp))
  clear e1 hb1 VC SC
  go_wp2_with fail
  refine S1.out.mono ?_
  rintro e w2 ⟨⟨u, T, rfl, st, ho⟩, hb⟩
  have O2 := Lib.hid (ho.mono B1.out.size)
  have ST := Lib.hid st
  have B2 := Lib.hid (bstep B1.out hb)
  clear ho st hb S1
  go_wp2_with fail
  go_ret
  exact ⟨⟨_, T, rfl, ST.out, O2.out⟩, B2.out⟩
end Go.Proofs.Ytkmbeogmgehnfaa.Vo

/-
  WordsBack: Texts that are quoted, with blanks between, are read back as these texts. The law returns true, and the inputs read as they did.
  Conditions: what the law reads is of bulk at most 1048576; unicode/utf8's two tables that the row lists read as the program's text lays them (the card ties them).
-/
import Derived.Test.YthlmjfjkjjoimaaDoorRows
import Derived.Test.YthlmjfjkjjoimaaDoorCards
import Derived.Test.YthlmjfjkjjoimaaDoorTie
import Derived.Test.YthlmjfjkjjoimaaDoorWpV
import Derived.Test.YthlmjfjkjjoimaaDoorWpW
import Derived.Test.YthlmjfjkjjoimaaDoorWdT
import Derived.SevenTiedAt
import Derived.ChangeMaps5
import Derived.Carry
import Derived.Lib.SmallJoins
import Derived.JoinedCond
import Derived.Deep.DeepHandedRow
import Derived.BigQuiet
namespace Go.Proofs.YthlmjfjkjjoimaaDoor.wordsBack
open Go.ChangeShapes Go.WideShapes Go.ChangeAt Go.RowKit Go.Joins Wd By
set_option linter.unusedVariables false
set_option linter.unusedSimpArgs false

theorem count_c (s : ByteArray) (w : World) (hs : s.size < 9223372036854775807) :
    Calls Tryd.prog 12 #[.string s] w fun e w' => e = .returned (.int .i64 ((chars s).length : Nat)) ∧ Below w.heap.size w w' := by
  refine (Tryd.utf8_RuneCountInString s w hs).mono ?_
  rintro e w' ⟨rfl, pos, rfl⟩
  exact ⟨by rw [count_chars], balloc (brefl w) _⟩
theorem chars_le (s : ByteArray) : (chars s).length ≤ s.size := by
  rw [← count_chars]
  exact Lib.runeCount_le s
theorem flat_len : ∀ l : List Nat, (l.flatMap qOne).length ≤ 2 * l.length
  | [] => by simp
  | x :: l => by
    have := flat_len l
    have q : (qOne x).length ≤ 2 := by unfold qOne; split <;> simp
    rw [List.flatMap_cons, List.length_append, List.length_cons]
    omega
theorem quo_le (s : ByteArray) : (quo s).size ≤ 2 * s.size + 2 := by
  have h := flat_len (bn s)
  have e : (bn s).length = s.size := by rw [bn, List.length_map, Array.length_toList]; rfl
  have q : qL s s.size = (bn s).flatMap qOne := by rw [qL_flat s s.size (Nat.le_refl _), List.take_of_length_le (by omega)]
  have z : ∀ l : List Nat, (bs8 l).size = l.length := fun l => by
    show (l.map UInt8.ofNat).toArray.size = _
    rw [List.size_toArray, List.length_map]
  rw [quo, q, z, List.length_append, List.length_cons]
  simp only [List.length_cons, List.length_nil]
  omega
theorem bdrewB {B : Nat} {a b : World} (h : Below B a b) (n : Nat) : Below B a (b.drewN n) := h.trans ⟨rfl, rfl, rfl, Nat.le_refl _, fun _ _ => rfl⟩
theorem ownS_form {w : World} {base : Nat} {v : Value} {l : List ByteArray} (h : OwnS w base v l) : ∃ a cap, v = .slice a l.length cap := by
  rcases h.2 with ⟨hv, h0⟩ | ⟨g, cap, cur, hv, _⟩
  · exact ⟨none, 0, by rw [hv, h0]⟩
  · exact ⟨_, cap, hv⟩
theorem sz1 {a k : Nat} (h : a ≤ k * 4194304) : a ≤ (k + 1) * 4194304 := Nat.le_trans h (Nat.mul_le_mul_right _ (Nat.le_succ k))
theorem sz2 {a b k : Nat} (h : a ≤ k * 4194304) (hb : b ≤ 4194304) : a + b ≤ (k + 1) * 4194304 := by
  rw [Nat.succ_mul]
  exact Nat.add_le_add h hb
theorem sz3 {a k : Nat} (h : a ≤ k * 4194304) (hk : k ≤ 200) : a ≤ 838860800 := Nat.le_trans h (Nat.le_trans (Nat.mul_le_mul_right _ hk) (by decide))
theorem rs_words {w : World} {v : Value} {ws : List W3} (h : Rs w v (ws.map (·.t))) : ∃ a cap, v = .slice a ws.length cap ∧ ws.length ≤ cap ∧ cap ≤ 9223372036854775807 ∧ (0 < ws.length → ∃ b off, a = some ⟨b, off, none⟩ ∧ b < w.heap.size ∧ ∀ j x, ws[j]? = some x → w.cell? ⟨b, off + j, none⟩ = some (.string x.t)) := by
  obtain ⟨a, cap, e, h1, h2, h3⟩ := h
  rw [List.length_map] at e h1 h3
  refine ⟨a, cap, e, h1, h2, fun hn => ?_⟩
  obtain ⟨b, off, ea, hb, B⟩ := h3 hn
  exact ⟨b, off, ea, hb, fun j x hj => B j _ (by rw [List.getElem?_map, hj]; rfl)⟩
theorem ri_words {w : World} {v : Value} {ws : List W3} (h : Ri w v (ws.map (·.c))) : ∃ a cap, v = .slice a ws.length cap ∧ ws.length ≤ cap ∧ cap ≤ 9223372036854775807 ∧ (0 < ws.length → ∃ b off, a = some ⟨b, off, none⟩ ∧ b < w.heap.size ∧ ∀ j x, ws[j]? = some x → w.cell? ⟨b, off + j, none⟩ = some (.int .i64 x.c)) := by
  obtain ⟨a, cap, e, h1, h2, h3⟩ := h
  rw [List.length_map] at e h1 h3
  refine ⟨a, cap, e, h1, h2, fun hn => ?_⟩
  obtain ⟨b, off, ea, hb, B⟩ := h3 hn
  exact ⟨b, off, ea, hb, fun j x hj => B j _ (by rw [List.getElem?_map, hj]; rfl)⟩
/-- the four blanks in memory. -/
theorem blanks (w : World) (g : Nat) (h : w.heap[g]? = some (.cells #[.string ⟨#[32]⟩, .string ⟨#[9]⟩, .string ⟨#[194, 160]⟩, .string ⟨#[227, 128, 128, 32]⟩] 9)) :
    ∃ bl : Nat → ByteArray, ∀ j, j < 4 → w.cell? ⟨g, j, none⟩ = some (.string (bl j)) ∧ Bk (bl j) ∧ (bl j).size ≤ 4 := by
  refine ⟨fun j => match j with | 0 => ⟨#[32]⟩ | 1 => ⟨#[9]⟩ | 2 => ⟨#[194, 160]⟩ | _ => ⟨#[227, 128, 128, 32]⟩, fun j hj => ?_⟩
  match j, hj with
  | 0, _ => exact ⟨by simp [World.cell?, h], bk_a, by decide⟩
  | 1, _ => exact ⟨by simp [World.cell?, h], bk_b, by decide⟩
  | 2, _ => exact ⟨by simp [World.cell?, h], bk_c, by decide⟩
  | 3, _ => exact ⟨by simp [World.cell?, h], bk_d, by decide⟩

set_option maxRecDepth 100000 in
set_option maxHeartbeats 4000000 in
theorem walk (v : Value) (L : List ByteArray) (u : Value) (m : Nat) (f : Nat → Nat) (w : World) (hL : Rs w v L) (lb : ∀ x ∈ L, x.size ≤ 1048576) (hA : Arg w u m f) (hm : m ≤ 140737488351232) (T : Lib.Utf8Tabs 0 1 w) :
    Calls Tryd.prog 4 #[v, u] w fun e w' => e = .returned (.bool true) ∧ Below w.heap.size w w' := by
  have HT := Lib.hid T
  clear T
  obtain ⟨a, cap, rfl, a1, a2, a3⟩ := hL
  obtain ⟨c, cap', rfl, c1, c2, c3, c4, c5⟩ := hA
  have HL := Lib.hid a3
  have HF := Lib.hid c4
  have HB := Lib.hid lb
  have HC := Lib.hid c3
  clear a3 c3 c4 c5 lb
  go_enter Tryd.func4, Tryd.ntmps4
  go_wp2_with fail
  refine (awake7_c _).mono ?_
  rintro e w1 ⟨rfl, hb⟩
  have B1 := Lib.hid hb
  clear hb
  go_wp2_with fail
  have L1 := B1.out.size
  obtain ⟨bl, BL⟩ := blanks (w1.alloc (.cells #[.string ⟨#[32]⟩, .string ⟨#[9]⟩, .string ⟨#[194, 160]⟩, .string ⟨#[227, 128, 128, 32]⟩] 9)) w1.heap.size (heap_alloc_new w1 _)
  have BL := Lib.hid BL
  have B2 := Lib.hid (B1.out.alloc B1.out.size (.cells #[.string ⟨#[32]⟩, .string ⟨#[9]⟩, .string ⟨#[194, 160]⟩, .string ⟨#[227, 128, 128, 32]⟩] 9))
  have KL : w1.heap.size < (w1.alloc (.cells #[.string ⟨#[32]⟩, .string ⟨#[9]⟩, .string ⟨#[194, 160]⟩, .string ⟨#[227, 128, 128, 32]⟩] 9)).heap.size := by simp
  clear B1
  generalize w1.alloc (.cells #[.string ⟨#[32]⟩, .string ⟨#[9]⟩, .string ⟨#[194, 160]⟩, .string ⟨#[227, 128, 128, 32]⟩] 9) = w2 at *
  generalize w1.heap.size = g at *
  go_loopw [6, 7, 8, 9, 10, 11, 12, 13] (fun tv sv iv nv kv _ _ _ wr => ∃ (k : Nat) (T : ByteArray) (ws : List W3), k ≤ L.length ∧ k ≤ 200 ∧ kv = .int .i64 k ∧ tv = .string T ∧ nv = .int .i64 ((chars T).length : Nat) ∧ Ln T ws ∧ (∀ x ∈ ws, x.q = true) ∧ ws.length ≤ k ∧ T.size ≤ k * 4194304 ∧ OwnS wr w2.heap.size sv (ws.map (·.t)) ∧ OwnI wr w2.heap.size iv (ws.map (·.c)) ∧ Below w2.heap.size w2 wr) (fun _ _ _ _ kv _ _ _ _ => 200 - (intOf kv).toNat)
  case atStart => exact ⟨0, emp, [], Nat.zero_le _, Nat.zero_le _, rfl, rfl, rfl, Ln.nil, by simp, Nat.le_refl _, by decide, OwnS.nil _ _, OwnI.nil _ _, brefl w2⟩
  case round =>
    obtain ⟨k, T, ws, kL, kM, rfl, rfl, rfl, hln, hq, hk, hz, oS, oI, hb⟩ := hrel
    rename World => wr
    have BB := Lib.hid hb
    have OS := Lib.hid oS
    have OI := Lib.hid oI
    have LN := Lib.hid hln
    have HQ := Lib.hid hq
    have cT := chars_le T
    clear hb oS oI hln hq
    by_cases c1 : k < L.length
    · by_cases c2 : k < 200
      · have d1 : decide ((k : Int) < (L.length : Int)) = true := by rw [decide_eq_true_iff]; omega
        have d2 : decide ((k : Int) < 200) = true := by rw [decide_eq_true_iff]; omega
        obtain ⟨b0, o0, rfl, la, ca⟩ := HL.out (by omega)
        obtain ⟨s, hs⟩ : ∃ s, L[k]? = some s := ⟨L[k], List.getElem?_eq_getElem c1⟩
        have sb := HB.out s (List.mem_of_getElem? hs)
        have g1 := ((bstep B2.out BB.out).cell (p := ⟨b0, _, none⟩) la).trans (ca k s hs)
        have k1 : (k : Int) < (L.length : Int) := by omega
        have VS := Lib.hid (Tryd.utf8_ValidString s wr (by omega) (Utf8Tabs_below HT.out (bstep B2.out BB.out)))
        rw [valid_chars] at VS
        have QC := fun w => Lib.hid (Quote_c s w (by omega))
        have qs := quo_le s
        clear ca hs
        by_cases ok : okc (chars s) = true
        · rw [ok] at VS
          go_wp2_with fail
          refine VS.out.mono ?_
          rintro e w3 ⟨rfl, hb⟩
          have B3 := Lib.hid (BB.out.trans (hb.mono BB.out.size))
          have S3 := Lib.hid (ownS_below OS.out hb)
          have I3 := Lib.hid (ownI_below OI.out hb)
          clear hb VS BB OS OI g1
          obtain ⟨z0, y0, y1⟩ := BL.out 0 (by omega)
          have g0 := (B3.out.cell (p := ⟨g, 0, none⟩) KL).trans z0
          by_cases cm : k < m
          · have d3 : decide ((k : Int) < (m : Int)) = true := by rw [decide_eq_true_iff]; omega
            have k2 : (k : Int) < (m : Int) := by omega
            obtain ⟨b1, o1, rfl, lb1, _, cb⟩ := HF.out (by omega)
            have g2 := ((bstep B2.out B3.out).cell (p := ⟨b1, _, none⟩) lb1).trans (cb k cm)
            have hfk := HC.out k
            obtain ⟨j, hj, hj4⟩ : ∃ j : Nat, f k % 4 = j ∧ j < 4 := ⟨_, rfl, by omega⟩
            have a2 : ((f k : Nat) : Int).tmod 4 = (j : Int) := by rw [Int.tmod_eq_emod_of_nonneg (by omega)]; omega
            have j1 : (j : Int) < 4 := by omega
            have j0 : 0 ≤ (j : Int) := by omega
            obtain ⟨z1, bk, bz⟩ := BL.out j hj4
            have g3 := (B3.out.cell (p := ⟨g, j, none⟩) KL).trans z1
            clear cb z0 z1 y0 y1 hj
            generalize f k = fk at *
            generalize bl 0 = bz0 at *
            generalize bl j = b at *
            obtain ⟨NX, e1, e2⟩ := LN.out.next bk ok
            have nx := Lib.hid NX
            have cb := chars_le b
            have cq := chars_le (quo s)
            generalize quo s = q at *
            clear NX BL
            go_wp2_with fail
            refine (QC w3).out.mono ?_
            rintro e w4 ⟨rfl, hb⟩
            have B4 := Lib.hid (B3.out.trans (hb.mono B3.out.size))
            have S4 := Lib.hid (ownS_below S3.out hb)
            have I4 := Lib.hid (ownI_below I3.out hb)
            clear hb QC B3 S3 I3
            have zT := sz3 hz kM
            obtain ⟨N1, hN1⟩ : ∃ N1 : Int, (((chars T).length + (chars b).length : Nat) : Int) = N1 := ⟨_, rfl⟩
            have W1 : IntKind.i64.wrap (((chars T).length : Int) + ((chars b).length : Int)) = N1 := by rw [wrap_in (by omega) (by omega)]; omega
            obtain ⟨N2, hN2⟩ : ∃ N2 : Int, (((chars T).length + (chars b).length + (chars q).length : Nat) : Int) = N2 := ⟨_, rfl⟩
            have W2 : IntKind.i64.wrap (N1 + ((chars q).length : Int)) = N2 := by rw [wrap_in (by omega) (by omega)]; omega
            rw [hN1] at nx
            clear hN1
            go_wp2_with fail
            refine (count_c b w4 (by omega)).mono ?_
            rintro e w5 ⟨rfl, hb⟩
            have B5 := Lib.hid (B4.out.trans (hb.mono B4.out.size))
            have S5 := Lib.hid (ownS_below S4.out hb)
            have I5 := Lib.hid (ownI_below I4.out hb)
            clear hb B4 S4 I4
            obtain ⟨va, wa, ra, oI, oS, ba, sa⟩ := appI_both I5.out S5.out N1 B5.out.size (by rw [List.length_map]; omega) 35
            have RA := Lib.hid ra
            have S6 := Lib.hid oS
            have I6 := Lib.hid oI
            have B6 := Lib.hid (B5.out.trans ba)
            clear ra oI oS ba sa B5 S5 I5
            go_wp2_with (at_builtin; refine wpList_append_eq rfl (.tmp 64) (.tmp 66) 35 rfl _ _ va wa rfl rfl RA.out ?_)
            refine (count_c q wa (by omega)).mono ?_
            rintro e w7 ⟨rfl, hb⟩
            have B7 := Lib.hid (B6.out.trans (hb.mono B6.out.size))
            have S7 := Lib.hid (ownS_below S6.out hb)
            have I7 := Lib.hid (ownI_below I6.out hb)
            clear hb B6 S6 I6 RA
            obtain ⟨vb, wb, rb, oS, oI, bb, sb'⟩ := appS_both I7.out S7.out s B7.out.size (by rw [List.length_map]; omega) 33
            have RB := Lib.hid rb
            have S8 := Lib.hid oS
            have I8 := Lib.hid oI
            have B8 := Lib.hid (B7.out.trans bb)
            clear rb oI oS bb sb' B7 S7 I7
            go_wp2_with (at_builtin; refine wpList_append_eq rfl (.tmp 75) (.tmp 77) 33 rfl _ _ vb wb rfl rfl RB.out ?_)
            go_roundw
            case rel => exact ⟨k + 1, T ++ b ++ q, ws ++ [⟨s, N1, true⟩], by omega, by omega, by go_num, rfl, by rw [e2, hN2], nx.out, by
                intro x hx
                rcases List.mem_append.1 hx with h | h
                · exact HQ.out x h
                · simp at h; subst h; rfl, by simp; omega, by rw [ByteArray.size_append, ByteArray.size_append, Nat.add_assoc]; exact sz2 hz (by omega), by rw [List.map_append]; exact S8.out, by rw [List.map_append]; exact I8.out, B8.out⟩
            case measure => simp [intOf]; omega
          · have d3 : decide ((k : Int) < (m : Int)) = false := by rw [decide_eq_false_iff_not]; omega
            clear z0
            generalize bl 0 = b at *
            have bk := y0
            have bz := y1
            clear y0 y1
            obtain ⟨NX, e1, e2⟩ := LN.out.next bk ok
            have nx := Lib.hid NX
            have cb := chars_le b
            have cq := chars_le (quo s)
            generalize quo s = q at *
            clear NX BL
            go_wp2_with fail
            refine (QC w3).out.mono ?_
            rintro e w4 ⟨rfl, hb⟩
            have B4 := Lib.hid (B3.out.trans (hb.mono B3.out.size))
            have S4 := Lib.hid (ownS_below S3.out hb)
            have I4 := Lib.hid (ownI_below I3.out hb)
            clear hb QC B3 S3 I3
            have zT := sz3 hz kM
            obtain ⟨N1, hN1⟩ : ∃ N1 : Int, (((chars T).length + (chars b).length : Nat) : Int) = N1 := ⟨_, rfl⟩
            have W1 : IntKind.i64.wrap (((chars T).length : Int) + ((chars b).length : Int)) = N1 := by rw [wrap_in (by omega) (by omega)]; omega
            obtain ⟨N2, hN2⟩ : ∃ N2 : Int, (((chars T).length + (chars b).length + (chars q).length : Nat) : Int) = N2 := ⟨_, rfl⟩
            have W2 : IntKind.i64.wrap (N1 + ((chars q).length : Int)) = N2 := by rw [wrap_in (by omega) (by omega)]; omega
            rw [hN1] at nx
            clear hN1
            go_wp2_with fail
            refine (count_c b w4 (by omega)).mono ?_
            rintro e w5 ⟨rfl, hb⟩
            have B5 := Lib.hid (B4.out.trans (hb.mono B4.out.size))
            have S5 := Lib.hid (ownS_below S4.out hb)
            have I5 := Lib.hid (ownI_below I4.out hb)
            clear hb B4 S4 I4
            obtain ⟨va, wa, ra, oI, oS, ba, sa⟩ := appI_both I5.out S5.out N1 B5.out.size (by rw [List.length_map]; omega) 35
            have RA := Lib.hid ra
            have S6 := Lib.hid oS
            have I6 := Lib.hid oI
            have B6 := Lib.hid (B5.out.trans ba)
            clear ra oI oS ba sa B5 S5 I5
            go_wp2_with (at_builtin; refine wpList_append_eq rfl (.tmp 64) (.tmp 66) 35 rfl _ _ va wa rfl rfl RA.out ?_)
            refine (count_c q wa (by omega)).mono ?_
            rintro e w7 ⟨rfl, hb⟩
            have B7 := Lib.hid (B6.out.trans (hb.mono B6.out.size))
            have S7 := Lib.hid (ownS_below S6.out hb)
            have I7 := Lib.hid (ownI_below I6.out hb)
            clear hb B6 S6 I6 RA
            obtain ⟨vb, wb, rb, oS, oI, bb, sb'⟩ := appS_both I7.out S7.out s B7.out.size (by rw [List.length_map]; omega) 33
            have RB := Lib.hid rb
            have S8 := Lib.hid oS
            have I8 := Lib.hid oI
            have B8 := Lib.hid (B7.out.trans bb)
            clear rb oI oS bb sb' B7 S7 I7
            go_wp2_with (at_builtin; refine wpList_append_eq rfl (.tmp 75) (.tmp 77) 33 rfl _ _ vb wb rfl rfl RB.out ?_)
            go_roundw
            case rel => exact ⟨k + 1, T ++ b ++ q, ws ++ [⟨s, N1, true⟩], by omega, by omega, by go_num, rfl, by rw [e2, hN2], nx.out, by
                intro x hx
                rcases List.mem_append.1 hx with h | h
                · exact HQ.out x h
                · simp at h; subst h; rfl, by simp; omega, by rw [ByteArray.size_append, ByteArray.size_append, Nat.add_assoc]; exact sz2 hz (by omega), by rw [List.map_append]; exact S8.out, by rw [List.map_append]; exact I8.out, B8.out⟩
            case measure => simp [intOf]; omega
        · have ok' : okc (chars s) = false := by cases h : okc (chars s) <;> simp_all
          rw [ok'] at VS
          go_wp2_with fail
          refine VS.out.mono ?_
          rintro e w3 ⟨rfl, hb⟩
          have B3 := Lib.hid (BB.out.trans (hb.mono BB.out.size))
          have S3 := Lib.hid (ownS_below OS.out hb)
          have I3 := Lib.hid (ownI_below OI.out hb)
          clear hb VS BB OS OI g1
          go_wp2_with fail
          go_roundw
          case rel => exact ⟨k + 1, T, ws, by omega, by omega, by go_num, rfl, rfl, LN.out, HQ.out, by omega, sz1 hz, S3.out, I3.out, B3.out⟩
          case measure => simp [intOf]; omega
      · have d1 : decide ((k : Int) < (L.length : Int)) = true := by rw [decide_eq_true_iff]; omega
        have d2 : decide ((k : Int) < 200) = false := by rw [decide_eq_false_iff_not]; omega
        have zT := sz3 hz kM
        have DN := LN.out.done
        have SC := fun w => Lib.hid (Split_c (T ++ rmk) w (by rw [ByteArray.size_append]; show _ + 9 ≤ _; omega))
        simp only [DN, fWhy, fChar, fWords] at SC
        unfold rmk at SC
        clear DN BL
        go_wp2_with fail
        refine (SC wr).out.mono ?_
        rintro e w4 ⟨vl, rfl, own, hb⟩
        have B4 := Lib.hid (BB.out.trans (hb.mono BB.out.size))
        obtain ⟨aw, capw, rfl, u1, u2, u3⟩ := own.rw
        obtain ⟨asv, caps, rfl, s1, s2, s3⟩ := rs_words (ownS_below OS.out hb).rs
        obtain ⟨ai, capi, rfl, i1, i2, i3⟩ := ri_words (ownI_below OI.out hb).ri
        have U3 := Lib.hid u3
        have S3 := Lib.hid s3
        have I3 := Lib.hid i3
        have X5 := Lib.hid (balloc (brefl w4) (.cells #[.int .i64 0, .int .i64 0, .int .i64 0] 26))
        have B5 := Lib.hid (bstep B2.out (B4.out.alloc B4.out.size (.cells #[.int .i64 0, .int .i64 0, .int .i64 0] 26)))
        have F2 : (w4.alloc (.cells #[.int .i64 0, .int .i64 0, .int .i64 0] 26)).heap[w4.heap.size]? = some (.cells #[.int .i64 0, .int .i64 0, .int .i64 0] 26) := heap_alloc_new w4 _
        have q0 : (w4.alloc (.cells #[.int .i64 0, .int .i64 0, .int .i64 0] 26)).cell? ⟨w4.heap.size, 0, none⟩ = some (.int .i64 0) := by simp only [World.cell?, F2]; rfl
        have q1 : (w4.alloc (.cells #[.int .i64 0, .int .i64 0, .int .i64 0] 26)).cell? ⟨w4.heap.size, 1, none⟩ = some (.int .i64 0) := by simp only [World.cell?, F2]; rfl
        have q2 : (w4.alloc (.cells #[.int .i64 0, .int .i64 0, .int .i64 0] 26)).cell? ⟨w4.heap.size, 2, none⟩ = some (.int .i64 0) := by simp only [World.cell?, F2]; rfl
        clear own hb SC OS OI BB u3 s3 i3 F2 B4
        go_wp2_with fail
        clear q0 q1 q2 LN
        generalize w4.alloc (.cells #[.int .i64 0, .int .i64 0, .int .i64 0] 26) = w5 at *
        go_loopw [16] (fun i wr => ∃ n : Nat, n ≤ ws.length ∧ i = .int .i64 n ∧ Below w5.heap.size w5 wr) (fun i _ => ws.length - (intOf i).toNat)
        case atStart => exact ⟨0, Nat.zero_le _, rfl, brefl w5⟩
        case round =>
          obtain ⟨n, hn, rfl, hb⟩ := hrel
          rename World => wz
          have BB := Lib.hid hb
          clear hb
          by_cases c : n < ws.length
          · have f1 : decide ((n : Int) < (ws.length : Int)) = true := by rw [decide_eq_true_iff]; omega
            obtain ⟨bw, ow, rfl, lw, cw⟩ := U3.out (by omega)
            obtain ⟨bs, os, rfl, ls, cs⟩ := S3.out (by omega)
            obtain ⟨bi, oi, rfl, li, ci⟩ := I3.out (by omega)
            obtain ⟨x, hx⟩ : ∃ x, ws[n]? = some x := ⟨ws[n], List.getElem?_eq_getElem c⟩
            have xq := HQ.out x (List.mem_of_getElem? hx)
            have XX := bstep X5.out BB.out
            obtain ⟨p1, p2, p3⟩ := cw n x hx
            have g1 := (XX.cell (p := ⟨bw, _, none⟩) lw).trans p1
            have g2 := (XX.cell (p := ⟨bw, _, none⟩) lw).trans p2
            have g3 := (XX.cell (p := ⟨bw, _, none⟩) lw).trans p3
            have g4 := (XX.cell (p := ⟨bs, _, none⟩) ls).trans (cs n x hx)
            have g5 := (XX.cell (p := ⟨bi, _, none⟩) li).trans (ci n x hx)
            rw [xq] at g3
            have k1 : (n : Int) < (ws.length : Int) := by omega
            clear p1 p2 p3 cw cs ci hx xq XX U3 S3 I3
            generalize x.t = xt at *
            generalize x.c = xc at *
            go_wp2_with fail
            go_quiet (fail)
            go_wp2_with fail
            go_roundw
            case rel => exact ⟨n + 1, by omega, by go_num, bdrewB BB.out nq⟩
            case measure => simp [intOf]; omega
          · have f1 : decide ((n : Int) < (ws.length : Int)) = false := by rw [decide_eq_false_iff_not]; omega
            go_wp2_with fail
            go_ret
            exact ⟨rfl, bstep B5.out BB.out⟩
    · have d1 : decide ((k : Int) < (L.length : Int)) = false := by rw [decide_eq_false_iff_not]; omega
      have zT := sz3 hz kM
      have DN := LN.out.done
      have SC := fun w => Lib.hid (Split_c (T ++ rmk) w (by rw [ByteArray.size_append]; show _ + 9 ≤ _; omega))
      simp only [DN, fWhy, fChar, fWords] at SC
      unfold rmk at SC
      clear DN BL
      go_wp2_with fail
      refine (SC wr).out.mono ?_
      rintro e w4 ⟨vl, rfl, own, hb⟩
      have B4 := Lib.hid (BB.out.trans (hb.mono BB.out.size))
      obtain ⟨aw, capw, rfl, u1, u2, u3⟩ := own.rw
      obtain ⟨asv, caps, rfl, s1, s2, s3⟩ := rs_words (ownS_below OS.out hb).rs
      obtain ⟨ai, capi, rfl, i1, i2, i3⟩ := ri_words (ownI_below OI.out hb).ri
      have U3 := Lib.hid u3
      have S3 := Lib.hid s3
      have I3 := Lib.hid i3
      have X5 := Lib.hid (balloc (brefl w4) (.cells #[.int .i64 0, .int .i64 0, .int .i64 0] 26))
      have B5 := Lib.hid (bstep B2.out (B4.out.alloc B4.out.size (.cells #[.int .i64 0, .int .i64 0, .int .i64 0] 26)))
      have F2 : (w4.alloc (.cells #[.int .i64 0, .int .i64 0, .int .i64 0] 26)).heap[w4.heap.size]? = some (.cells #[.int .i64 0, .int .i64 0, .int .i64 0] 26) := heap_alloc_new w4 _
      have q0 : (w4.alloc (.cells #[.int .i64 0, .int .i64 0, .int .i64 0] 26)).cell? ⟨w4.heap.size, 0, none⟩ = some (.int .i64 0) := by simp only [World.cell?, F2]; rfl
      have q1 : (w4.alloc (.cells #[.int .i64 0, .int .i64 0, .int .i64 0] 26)).cell? ⟨w4.heap.size, 1, none⟩ = some (.int .i64 0) := by simp only [World.cell?, F2]; rfl
      have q2 : (w4.alloc (.cells #[.int .i64 0, .int .i64 0, .int .i64 0] 26)).cell? ⟨w4.heap.size, 2, none⟩ = some (.int .i64 0) := by simp only [World.cell?, F2]; rfl
      clear own hb SC OS OI BB u3 s3 i3 F2 B4
      go_wp2_with fail
      clear q0 q1 q2 LN
      generalize w4.alloc (.cells #[.int .i64 0, .int .i64 0, .int .i64 0] 26) = w5 at *
      go_loopw [16] (fun i wr => ∃ n : Nat, n ≤ ws.length ∧ i = .int .i64 n ∧ Below w5.heap.size w5 wr) (fun i _ => ws.length - (intOf i).toNat)
      case atStart => exact ⟨0, Nat.zero_le _, rfl, brefl w5⟩
      case round =>
        obtain ⟨n, hn, rfl, hb⟩ := hrel
        rename World => wz
        have BB := Lib.hid hb
        clear hb
        by_cases c : n < ws.length
        · have f1 : decide ((n : Int) < (ws.length : Int)) = true := by rw [decide_eq_true_iff]; omega
          obtain ⟨bw, ow, rfl, lw, cw⟩ := U3.out (by omega)
          obtain ⟨bs, os, rfl, ls, cs⟩ := S3.out (by omega)
          obtain ⟨bi, oi, rfl, li, ci⟩ := I3.out (by omega)
          obtain ⟨x, hx⟩ : ∃ x, ws[n]? = some x := ⟨ws[n], List.getElem?_eq_getElem c⟩
          have xq := HQ.out x (List.mem_of_getElem? hx)
          have XX := bstep X5.out BB.out
          obtain ⟨p1, p2, p3⟩ := cw n x hx
          have g1 := (XX.cell (p := ⟨bw, _, none⟩) lw).trans p1
          have g2 := (XX.cell (p := ⟨bw, _, none⟩) lw).trans p2
          have g3 := (XX.cell (p := ⟨bw, _, none⟩) lw).trans p3
          have g4 := (XX.cell (p := ⟨bs, _, none⟩) ls).trans (cs n x hx)
          have g5 := (XX.cell (p := ⟨bi, _, none⟩) li).trans (ci n x hx)
          rw [xq] at g3
          have k1 : (n : Int) < (ws.length : Int) := by omega
          clear p1 p2 p3 cw cs ci hx xq XX U3 S3 I3
          generalize x.t = xt at *
          generalize x.c = xc at *
          go_wp2_with fail
          go_quiet (fail)
          go_wp2_with fail
          go_roundw
          case rel => exact ⟨n + 1, by omega, by go_num, bdrewB BB.out nq⟩
          case measure => simp [intOf]; omega
        · have f1 : decide ((n : Int) < (ws.length : Int)) = false := by rw [decide_eq_false_iff_not]; omega
          go_wp2_with fail
          go_ret
          exact ⟨rfl, bstep B5.out BB.out⟩

theorem bulk_one {H : Type} (d : DataW H) : 1 ≤ Rows.uptoBulk d := by
  cases d with
  | lit l => cases l <;> simp [Rows.uptoBulk]
  | _ => simp [Rows.uptoBulk]
theorem bulk_len {H : Type} : ∀ l : List (DataW H), l.length ≤ Rows.uptoBulkAll l
  | [] => Nat.zero_le _
  | d :: r => by
    have a := bulk_one d
    have b := bulk_len r
    simp only [List.length_cons, Rows.uptoBulkAll]
    omega
theorem bulk_mem {H : Type} : ∀ (l : List (DataW H)) (d : DataW H), d ∈ l → Rows.uptoBulk d ≤ Rows.uptoBulkAll l
  | [], d, h => by cases h
  | x :: r, d, h => by
    rcases List.mem_cons.1 h with e | e
    · subst e
      simp only [Rows.uptoBulkAll]
      omega
    · have := bulk_mem r d e
      simp only [Rows.uptoBulkAll]
      omega
theorem bulk_str {H : Type} {ds : List (DataW H)} {s : ByteArray} (hk : Rows.uptoBulkAll ds ≤ 1048576) (h : (DataW.lit (.string s.data.toList)) ∈ ds) : s.size ≤ 1048576 := by
  have := bulk_mem ds _ h
  simp only [Rows.uptoBulk] at this
  have e : s.data.toList.length = s.size := by rw [Array.length_toList]; rfl
  omega
theorem cellsStr : Tryd.prog.cellsOf 9 = 1 := by kernel_rfl
set_option maxRecDepth 100000 in
theorem open_strs {H : Type} {enc : TypeId × Value → H} {W : World} {base : Nat} {v : Value} {d : DataW H} {p : List MemPlace} {ds : List (DataW H)}
    (hv : Value.okWide Tryd.prog W .any base 33 v) (h : DataW.Trod enc Tryd.prog W 0 (fun _ => true) true 33 v d p) (hk : Rows.uptoBulkAll ds ≤ 1048576) (hm : d ∈ ds) : ∃ L, Rs W v L ∧ ∀ x ∈ L, x.size ≤ 1048576 := by
  obtain ⟨a0, len, cap, rfl⟩ := okWide_slice Tryd.underlying33 hv
  obtain ⟨fuel, hf⟩ := h
  rcases Go.Deep.open_slice1 Tryd.underlying33 cellsStr hf with ⟨hcs, _⟩ | ⟨a, len', cap', m, n, V, D, Pl, hcs, _, hl, hmx, hmm, hx, hall⟩
  · simp [Value.cells] at hcs
    obtain ⟨rfl, rfl, rfl⟩ := hcs
    exact ⟨[], ⟨none, 0, rfl, Nat.le_refl _, by omega, fun h => absurd h (Nat.lt_irrefl _)⟩, by simp⟩
  · simp [Value.cells] at hcs
    obtain ⟨rfl, rfl, rfl⟩ := hcs
    simp only [if_true] at hmm
    subst hmm
    have each : ∀ i, i < m → ∃ s : ByteArray, W.cell? (a.add i) = some (.string s) ∧ D i = .lit (.string s.data.toList) := by
      intro i hi
      obtain ⟨c, t⟩ := hall i hi
      obtain ⟨s, e1, e2, _⟩ := DataW.trod_string Tryd.underlying9 t
      simp only [List.cons.injEq, and_true] at e1
      simp only [Prod.mk.injEq] at e2
      exact ⟨s, by rw [c, e1], e2.1⟩
    haveI : Inhabited ByteArray := ⟨⟨#[]⟩⟩
    obtain ⟨F, hF⟩ := Go.Deep.choose_lt (α := ByteArray) each
    simp only [Prod.mk.injEq] at hx
    have b0 := bulk_mem ds d hm
    rw [hx.1] at b0
    simp only [Rows.uptoBulk] at b0
    refine ⟨(List.range len).map F, ⟨some a, m, by simp, by simpa using hl, by unfold maxLen at hmx; omega, fun hn => ?_⟩, fun x hx' => ?_⟩
    · simp at hn
      have c0 := (hF 0 (by omega)).1
      obtain ⟨b, off, s⟩ := a
      have sp : s = none := by simpa [Addr.add] using World.cell?_spot c0
      subst sp
      refine ⟨b, off, rfl, World.block_lt_of_cell? W _ (show W.cell? ⟨b, off, none⟩ = some _ by simpa [Addr.add] using c0), fun j x hj => ?_⟩
      have hjl : j < len := by
        have := (List.getElem?_eq_some_iff.1 hj).1
        simpa using this
      have e : F j = x := by simpa [hjl] using hj
      have q := (hF j (by omega)).1
      rw [e] at q
      have ea : (⟨b, off, none⟩ : Addr).add j = ⟨b, off + j, none⟩ := by unfold Addr.add; split <;> simp_all
      rw [ea] at q
      exact q
    · obtain ⟨i, hi, rfl⟩ := List.mem_map.1 hx'
      have hi' : i < len := by simpa using hi
      have b1 := bulk_mem ((List.range len).map D) (D i) (List.mem_map.2 ⟨i, hi, rfl⟩)
      rw [(hF i (by omega)).2] at b1
      simp only [Rows.uptoBulk] at b1
      have e : (F i).data.toList.length = (F i).size := by rw [Array.length_toList]; rfl
      omega
theorem open_bytesU {H : Type} {enc : TypeId × Value → H} {W : World} {base : Nat} {v : Value} {d : DataW H} {p : List MemPlace} {ds : List (DataW H)}
    (hv : Value.okWide Tryd.prog W .any base 34 v) (h : DataW.Trod enc Tryd.prog W 0 (fun _ => true) true 34 v d p) (hk : Rows.uptoBulkAll ds ≤ 1048576) (hm : d ∈ ds) : ∃ n f, Arg W v n f ∧ n ≤ 140737488351232 := by
  have b0 := bulk_mem ds d hm
  obtain ⟨n, f, A⟩ := open_bytes hv h (fun es sp e => by
    subst e
    simp only [Rows.uptoBulk] at b0
    have b1 := bulk_len es
    have b2 := bulk_len sp
    rw [bytes5]
    unfold reachBytes
    omega)
  have A' := A
  obtain ⟨a, cap, rfl, h1, h2, _⟩ := A
  exact ⟨n, f, A', by omega⟩

theorem reads (os : Os) {H : Type} (enc : TypeId × Value → H) : ∃ places, DataW.whole enc Tryd.prog ((World.laidAll Tryd.prog os Rows.wordsBackUptoRow.laid).forCall (fun _ _ => 0) ⟨#[], #[.slice none 0 0, .slice none 0 0], []⟩).memory Tryd.f4.params.toList Rows.wordsBackSpec.vars false #[.slice none 0 0, .slice none 0 0].toList 8 = some ([.nil, .nil], [], places) :=
  ⟨[], by kernel_rfl⟩
theorem metU (os : Os) (args : Array Value) : laidMetH Tryd.prog Rows.wordsBackUptoRow.laid ((World.laidAll Tryd.prog os Rows.wordsBackUptoRow.laid).forCall (fun _ _ => 0) ⟨#[], args, []⟩).memory := by
  rw [MakeChecks.laidMetH_plain _ _ _ (by kernel_rfl)]
  exact laidMet_laidAll args (by kernel_rfl) (by kernel_rfl)

set_option maxRecDepth 100000 in
theorem lifted (os : Os) (started : os.Started) (H : Type) (enc : TypeId × Value → H) (I : Stop.Interp) :
    ReturnsInHanded {} Tryd.checked os 4 .any ((Rows.OpenSpec.upto Rows.wordsBackSpec).preRow enc Tryd.prog Tryd.f4 Rows.wordsBackUptoRow.domain false Rows.wordsBackUptoRow.laid) (((Rows.OpenSpec.upto Rows.wordsBackSpec).at I).post enc Tryd.prog Tryd.f4 false true false false) := by
  obtain ⟨places, hx⟩ := reads os enc
  refine returnsInHanded_of_row (C := Tryd.checked) (s := Rows.OpenSpec.upto Rows.wordsBackSpec) own started (by kernel_rfl) Tryd.func4
    (witness_row_at (enc := enc) (C := Tryd.checked) false (World.laidAll Tryd.prog os Rows.wordsBackUptoRow.laid) #[.slice none 0 0, .slice none 0 0] rfl (by kernel_rfl) (by kernel_rfl) (by kernel_rfl)
      (OpenSpec.preRow_of_cond 8 hx (by kernel_rfl) (fun k hk => by cases hk; kernel_rfl) (by kernel_rfl) (metU os _))) ?_
  intro W base args ds gs before hval0 hW _ hcond hsz0 hL _ _
  have hsz : (DataW.weightsEach Tryd.prog (Tryd.f4.params.toList ++ Rows.wordsBackSpec.plain.varTypes Tryd.prog) (ds ++ gs)).all (· ≤ reachBytes) = true := hsz0
  have hk0 : Rows.uptoBulkAll (ds ++ gs) ≤ 1048576 := of_decide_eq_true (hcond _ rfl)
  have hval : ∀ (j : Nat) t v, Tryd.f4.params[j]? = some t → args[j]? = some v → Value.okWide Tryd.prog W .any base t v := hval0
  have hW' := hW
  obtain ⟨p, q, hA0, hV, rfl, hfz, hnd⟩ := hW
  have hA : DataW.TrodAll enc Tryd.prog W 0 (fun _ => true) true Tryd.f4.params.toList args.toList ds p := hA0
  rw [Tryd.params4] at hA hval hsz
  obtain ⟨v0, vs0, d0, ds0, p0, q0, hargs, rfl, rfl, h0, r0⟩ := trodAll_cons hA
  obtain ⟨v1, vs1, d1, ds1, p1, q1, rfl, rfl, rfl, h1, r1⟩ := trodAll_cons r0
  obtain ⟨rfl, rfl, rfl⟩ := trodAll_nil r1
  obtain rfl : args = #[v0, v1] := by cases args; simp_all
  obtain ⟨rfl, rfl⟩ := trodVars_none hV
  have h0k := h0
  have hlt0 : ∀ x ∈ p0, x.block < W.heap.size := fun x hx => by have := hW'.lt x (by simp [hx]); simpa using this
  have h1k := h1
  have hlt1 : ∀ x ∈ p1, x.block < W.heap.size := fun x hx => by have := hW'.lt x (by simp [hx]); simpa using this
  obtain ⟨L0, R0, lb0⟩ := open_strs (hval 0 33 v0 rfl rfl) h0 hk0 (by simp)
  obtain ⟨n1, f1, A1, nb1⟩ := open_bytesU (hval 1 34 v1 rfl rfl) h1 hk0 (by simp)
  clear hA0 hval0
  simp only [List.append_nil] at hW'
  refine (walk v0 L0 v1 n1 f1 W R0 lb0 A1 nb1 (tabs_of_laid hL)).mono fun e W' ⟨he, hg⟩ => ?_
  subst he
  exact ⟨_, rfl, _, _, _, [], _, [], hW', trodAll_cons_mk (shut_bool Tryd.underlying4 _) trodAll_mk0,
    (trodAll_cons_mk (Below.trod laidOut (by kernel_rfl) (of_decide_eq_true (by kernel_rfl)) h0k hg hlt0) (trodAll_cons_mk (Below.trod laidOut (by kernel_rfl) (of_decide_eq_true (by kernel_rfl)) h1k hg hlt1) trodAll_mk0)), rfl, hg.frame _, fun h => nomatch h⟩

theorem over : Rows.WordsBackUptoSaid :=
  OpenClaim.holds_of_cond 4 Tryd.f4 rfl rfl rfl rfl rfl rfl rfl ⟨rfl, rfl, rfl, rfl, rfl⟩ rfl rfl rfl rfl rfl (by kernel_rfl) Tryd.func4 (by kernel_rfl)
    (of_decide_eq_true (by kernel_rfl)) (by unfold Func.isWrapper; first | (rw [if_pos (by decide +kernel)]; kernel_rfl) | (rw [if_neg (by decide +kernel)]; exact ⟨rfl, rfl⟩))
    (fun os started H enc _ I => by rw [OpenClaim.pre_eq_preRow]; exact lifted os started H enc I)

theorem proved : Rows.WordsBackUptoCardSaid :=
  Claim7.holds_tied_plain_at .later [] _ _ _ _ over (fun _ h => by cases h) (by kernel_rfl) (fun _ h => by cases h) wordsBackUpto_row_tie rfl ⟨rfl, rfl⟩ (by kernel_rfl) rfl
    (fun f fn hf hfn => by
      obtain rfl : f = 4 := Option.some.inj ((show Tryd.prog.funcNamed Rows.wordsBackUptoRow.func = some 4 by kernel_rfl).symm.trans hf) |>.symm
      obtain rfl : fn = Tryd.f4 := (Option.some.inj (Tryd.func4.symm.trans hfn)).symm
      exact ⟨by kernel_rfl, fun j t ht => by
        rw [Tryd.params4] at ht
        have hm : t ∈ [33, 34] := by simpa using Array.mem_of_getElem? ht
        have hall : ([33, 34].all fun u => !Tryd.prog.wantsStandIn u) = true := by kernel_rfl
        exact (show Tryd.prog.wantsStandIn t = false by simpa using List.all_eq_true.1 hall t hm)⟩)
    (by kernel_rfl)
end Go.Proofs.YthlmjfjkjjoimaaDoor.wordsBack

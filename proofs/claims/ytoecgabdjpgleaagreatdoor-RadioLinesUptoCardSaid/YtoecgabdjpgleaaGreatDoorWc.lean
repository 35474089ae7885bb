/-
  The contracts of words.Quote, isBlank, isWrong, digits and Number.
  Conditions: Quote: no more than 2^40 bytes.
  Characters: a rune that is no wrong byte is written as it was read; which bytes are wrong; blanks.
  A line's words, character by character: the contracts of the cutter's methods.
  A line's words, character by character: the contracts of the cutter's methods.
-/
import Derived.Test.YtoecgabdjpgleaaGreatDoorWb
import Derived.Lib.MapLaws
import Derived.Test.YtoecgabdjpgleaaGreatDoorWa
import Derived.Deep.CutRange
namespace Go.Proofs.YtoecgabdjpgleaaGreatDoor.Wd
open Go.ChangeShapes Go.WideShapes Go.ChangeAt Go.RowKit Go.Joins By
set_option linter.unusedVariables false
set_option linter.unusedSimpArgs false

/-- a builder of the call's own, that holds these bytes. -/
def Qb (w wr : World) (l : List Nat) : Prop := ∃ c v, Fb wr w.heap.size 0 99 c ∧ c[1]? = some v ∧ Own wr w.heap.size v l ∧ (l = [] → v = .slice none 0 0) ∧ Below w.heap.size w wr
set_option maxRecDepth 100000 in
theorem Qb.new (w : World) : Qb w (w.alloc (.cells #[.pointer none, .slice none 0 0] 99)) [] :=
  ⟨#[.pointer none, .slice none 0 0], .slice none 0 0, ⟨heap_alloc_new w _, by decide, by decide, by kernel_rfl, .inl rfl⟩, rfl, Own.nil _ _, fun _ => rfl, balloc (brefl w) _⟩
theorem Qb.string {w wr : World} {l : List Nat} (h : Qb w wr l) (h8 : ∀ x ∈ l, x < 256) :
    Calls Tryz.prog 110 #[.pointer (some ⟨w.heap.size, 0, none⟩)] wr fun e w' => e = .returned (.string (bs8 l)) ∧ Below w.heap.size w w' := by
  obtain ⟨c, v, F, hv, own, hz, hb⟩ := h
  refine (String_c F (Nat.le_refl _) hv own h8 hz).mono ?_
  rintro e w' ⟨rfl, F', W⟩
  exact ⟨rfl, hb.trans W.below⟩

/-- a text as a quoted word. -/
def quo (s : ByteArray) : ByteArray := bs8 (34 :: qL s s.size ++ [34])
theorem quo_eq (s : ByteArray) : q1 ++ bs8 (qL s s.size) ++ q1 = quo s := by
  apply ByteArray.ext
  simp [quo, bs8, q1]

theorem ieq (r : Nat) (n : Int) (m : Nat) (h : n = (m : Int)) : ((r : Int) == n) = decide (r = m) := by
  subst h
  by_cases e : r = m
  · rw [decide_eq_true e, e, beq_self_eq_true]
  · rw [decide_eq_false e, beq_eq_false_iff_ne]
    omega
def blk (r : Nat) : Bool := decide (r = 9 ∨ r = 32 ∨ r = 160 ∨ r = 12288)
set_option maxRecDepth 100000 in
set_option maxHeartbeats 2000000 in
theorem isBlank_c (r : Nat) (w : World) :
    Calls Tryz.prog 82 #[.int .i32 r] w fun e w' => e = .returned (.bool (blk r)) ∧ w' = w := by
  have N9 : ((r : Int) == 9) = decide (r = 9) := ieq r 9 9 rfl
  have N32 : ((r : Int) == 32) = decide (r = 32) := ieq r 32 32 rfl
  have N160 : ((r : Int) == 160) = decide (r = 160) := ieq r 160 160 rfl
  have N12288 : ((r : Int) == 12288) = decide (r = 12288) := ieq r 12288 12288 rfl
  have hB : Hid (blk r = (decide (r = 9) || decide (r = 32) || decide (r = 160) || decide (r = 12288))) := Lib.hid (by simp [blk, Bool.or_assoc])
  generalize blk r = z at *
  generalize decide (r = 9) = a at *
  generalize decide (r = 32) = b at *
  generalize decide (r = 160) = c at *
  generalize decide (r = 12288) = d at *
  go_enter Tryz.func82, Tryz.ntmps82
  cases a <;> cases b <;> cases c <;> cases d
  all_goals
    go_wp2
    go_ret
    exact ⟨by rw [hB.out]; rfl, rfl⟩

set_option maxRecDepth 100000 in
set_option maxHeartbeats 2000000 in
theorem isWrong_c (r : Nat) (t : ByteArray) (w : World) :
    Calls Tryz.prog 50 #[.int .i32 r, .string t] w fun e w' => e = .returned (.bool (decide (r = 65533) && !Lib.hasPrefix t.data.toList [239, 191, 189])) ∧ w' = w := by
  have HP := Tryz.strings_HasPrefix t ⟨#[239, 191, 189]⟩ w
  obtain ⟨z, hz⟩ : ∃ z, Hid (z = Lib.hasPrefix t.data.toList [239, 191, 189]) := ⟨_, Lib.hid rfl⟩
  rw [← hz.out]
  have HP : Calls Tryz.prog 77 #[.string t, .string ⟨#[239, 191, 189]⟩] w fun e w' => e = .returned (.bool z) ∧ w' = w := by rw [hz.out]; exact HP
  by_cases h : r = 65533
  · have t1 : ((r : Int) == 65533) = true := by simp; omega
    rw [decide_eq_true h]
    clear h
    go_enter Tryz.func50, Tryz.ntmps50
    go_wp2_with fail
    refine HP.mono ?_
    rintro e w' ⟨rfl, rfl⟩
    go_wp2_with fail
    go_ret
    exact ⟨by rw [Bool.true_and]; rfl, rfl⟩
  · have t1 : ((r : Int) == 65533) = false := by simp; omega
    rw [decide_eq_false h]
    clear h
    go_enter Tryz.func50, Tryz.ntmps50
    go_wp2_with fail
    go_ret
    exact ⟨rfl, rfl⟩
end Go.Proofs.YtoecgabdjpgleaaGreatDoor.Wd
namespace Go.Proofs.YtoecgabdjpgleaaGreatDoor.Wd
open Go.ChangeShapes Go.WideShapes Go.ChangeAt Go.RowKit Go.Joins By
set_option linter.unusedVariables false
set_option linter.unusedSimpArgs false

/-- the text of the character at p. -/
def ct (s : ByteArray) (p : Nat) : ByteArray := s.extract p (p + cw s p)
def tl (s : ByteArray) (p : Nat) : List UInt8 := (s.extract p s.size).data.toList
theorem decL (s : ByteArray) (p : Nat) : Lib.decodeL (tl s p) = (cr s p, cw s p) := by
  have h := Lib.tail_decode s p 0
  rw [Nat.add_zero] at h
  have e : Lib.decodeL (tl s p) = Utf8.decode (s.extract p s.size) 0 := by
    unfold Lib.decodeL tl
    rw [Array.toArray_toList]
  rw [e, h]
  rfl
theorem tl_eq (s : ByteArray) (p : Nat) : tl s p = s.data.toList.drop p := by
  unfold tl
  rw [Lib.extract_data]
  apply List.take_of_length_le
  rw [List.length_drop, ← Lib.size_eq]
  exact Nat.le_refl _
theorem ct_data (s : ByteArray) (p : Nat) : (ct s p).data.toList = (tl s p).take (cw s p) := by
  unfold ct
  rw [Lib.extract_data, tl_eq]
  congr 1
  omega
theorem tl_ne {s : ByteArray} {p : Nat} (h : p < s.size) : tl s p ≠ [] := by
  rw [tl_eq]
  intro e
  have := congrArg List.length e
  rw [List.length_drop, ← Lib.size_eq] at this
  simp at this
  omega
/-- what is no wrong byte is written as it was read. -/
theorem enc_ct {s : ByteArray} {p : Nat} (h : p < s.size) (hw : wr1 s p = false) : Lib.encodeRune (cr s p : Int) = (ct s p).data.toList := by
  have d := decL s p
  have e := Lib.encode_decode (tl s p) (tl_ne h) (by
    rw [d]
    rintro ⟨a, b⟩
    simp only at a b
    rw [wr1, decide_eq_true a, decide_eq_true b] at hw
    cases hw)
  rw [d] at e
  rw [ct_data]
  exact e
theorem rb_ct {s : ByteArray} {p : Nat} (h : p < s.size) (hw : wr1 s p = false) : rb (cr s p : Int) = bn (ct s p) := by
  unfold rb bn
  rw [enc_ct h hw]
/-- which bytes are wrong. -/
theorem wrong_eq {s : ByteArray} {p : Nat} (h : p < s.size) : (decide (cr s p = 65533) && !Lib.hasPrefix (s.extract p s.size).data.toList [239, 191, 189]) = wr1 s p := by
  by_cases a : cr s p = 65533
  · by_cases b : cw s p = 1
    · have hp : Lib.hasPrefix (s.extract p s.size).data.toList [239, 191, 189] = false := by
        cases hq : Lib.hasPrefix (s.extract p s.size).data.toList [239, 191, 189] with
        | false => rfl
        | true =>
          exfalso
          have d := decL s p
          unfold Lib.hasPrefix at hq
          rw [List.isPrefixOf_iff_prefix] at hq
          obtain ⟨r, hr⟩ := hq
          have hr : tl s p = 239 :: 191 :: 189 :: r := hr.symm
          rw [hr, Lib.decodeL_N] at d
          have d2 := congrArg Prod.snd d
          simp only [b] at d2
          have e : ∀ n b3 : Nat, 2 < n → (Lib.decodeN n 239 191 189 b3).2 = 3 := by
            intro n b3 hn
            simp [Lib.decodeN, hn, show 1 < n by omega]
          have := e (239 :: 191 :: 189 :: r).length (List.getD (239 :: 191 :: 189 :: r) 3 0).toNat (by simp)
          simp at this d2
          omega
      rw [hp, wr1, decide_eq_true a, decide_eq_true b]
      rfl
    · have hw : wr1 s p = false := by rw [wr1, decide_eq_false b, Bool.and_false]
      have e := enc_ct h hw
      rw [a, ct_data] at e
      have e2 : Lib.encodeRune ((65533 : Nat) : Int) = [239, 191, 189] := by decide
      rw [e2] at e
      have hp : Lib.hasPrefix (s.extract p s.size).data.toList [239, 191, 189] = true := by
        unfold Lib.hasPrefix
        rw [List.isPrefixOf_iff_prefix, e]
        exact List.take_prefix _ _
      rw [hp, hw]
      simp
  · rw [wr1, decide_eq_false a, Bool.false_and, Bool.false_and]

/-- a rune and its text. -/
structure Ch (r : Nat) (t : ByteArray) : Prop where
  enc : Lib.encodeRune (r : Int) = t.data.toList
  le : r ≤ 1114111
theorem ch_at {s : ByteArray} {p : Nat} (h : p < s.size) (hw : wr1 s p = false) : Ch (cr s p) (ct s p) := ⟨enc_ct h hw, cr_le s p⟩
theorem Ch.rb {r : Nat} {t : ByteArray} (h : Ch r t) : rb (r : Int) = bn t := by
  unfold Wd.rb bn
  rw [h.enc]
theorem encZ (r : Int) : (rb r).map (fun (x : Nat) => (x : Int)) = Lib.encodeRuneZ r := by
  unfold rb Lib.encodeRune
  rw [List.map_map, List.map_map]
  conv => rhs; rw [← List.map_id (Lib.encodeRuneZ r)]
  apply List.map_congr_left
  intro x hx
  obtain ⟨h0, h1⟩ := Lib.encodeRuneZ_byte r x hx
  simp [Function.comp]
  omega
theorem encZ1 (r : Nat) (x : Int) (hx : 0 ≤ x ∧ x < 128) : Lib.encodeRuneZ (r : Int) = [x] ↔ (r : Int) = x := by
  unfold Lib.encodeRuneZ
  repeat' split
  all_goals simp
  all_goals omega
theorem encZ2 (r : Nat) : Lib.encodeRuneZ (r : Int) = [194, 160] ↔ r = 160 := by
  unfold Lib.encodeRuneZ
  repeat' split
  all_goals simp
  all_goals omega
theorem encZ3 (r : Nat) : Lib.encodeRuneZ (r : Int) = [227, 128, 128] ↔ r = 12288 := by
  unfold Lib.encodeRuneZ
  repeat' split
  all_goals simp
  all_goals omega
theorem map_one {α β : Type} {f : α → β} (hf : ∀ a b, f a = f b → a = b) : ∀ l k : List α, l.map f = k.map f → l = k
  | [], [], _ => rfl
  | [], _ :: _, h => by simp at h
  | _ :: _, [], h => by simp at h
  | a :: l, b :: k, h => by
    simp only [List.map_cons, List.cons.injEq] at h
    rw [hf a b h.1, map_one hf l k h.2]
theorem list_iff (l k : List UInt8) : l = k ↔ (l.map UInt8.toNat).map (fun (x : Nat) => (x : Int)) = (k.map UInt8.toNat).map (fun (x : Nat) => (x : Int)) := by
  constructor
  · rintro rfl; rfl
  · intro h
    exact map_one (fun a b e => UInt8.toNat_inj.1 e) _ _ (map_one (f := fun (x : Nat) => (x : Int)) (fun (a b : Nat) (e : (a : Int) = (b : Int)) => by omega) _ _ h)
theorem Ch.is {r : Nat} {t : ByteArray} (h : Ch r t) (k : List UInt8) : t.toList = k ↔ Lib.encodeRuneZ (r : Int) = (k.map UInt8.toNat).map (fun (x : Nat) => (x : Int)) := by
  rw [ByteArray.toList_eq, ← h.enc, list_iff, ← encZ]
  rfl
theorem Ch.is34 {r : Nat} {t : ByteArray} (h : Ch r t) : t.toList = [34] ↔ r = 34 := by
  rw [h.is]
  have := encZ1 r 34 (by omega)
  simp only [List.map_cons, List.map_nil]
  refine Iff.trans this ?_
  omega
theorem Ch.is35 {r : Nat} {t : ByteArray} (h : Ch r t) : t.toList = [35] ↔ r = 35 := by
  rw [h.is]
  have := encZ1 r 35 (by omega)
  simp only [List.map_cons, List.map_nil]
  refine Iff.trans this ?_
  omega
theorem Ch.is92 {r : Nat} {t : ByteArray} (h : Ch r t) : t.toList = [92] ↔ r = 92 := by
  rw [h.is]
  have := encZ1 r 92 (by omega)
  simp only [List.map_cons, List.map_nil]
  refine Iff.trans this ?_
  omega
theorem Ch.bl {r : Nat} {t : ByteArray} (h : Ch r t) : bl1 t = blk r := by
  have a := (h.is [9]).trans (encZ1 r 9 (by omega))
  have b := (h.is [32]).trans (encZ1 r 32 (by omega))
  have c := (h.is [194, 160]).trans (encZ2 r)
  have d := (h.is [227, 128, 128]).trans (encZ3 r)
  rw [Bool.eq_iff_iff]
  simp only [bl1, blk, Bool.or_eq_true, beq_iff_eq, decide_eq_true_eq, a, b, c, d]
  omega
end Go.Proofs.YtoecgabdjpgleaaGreatDoor.Wd
namespace Go.Proofs.YtoecgabdjpgleaaGreatDoor.Wd
open Go.ChangeShapes Go.WideShapes Go.ChangeAt Go.RowKit Go.Joins By
set_option linter.unusedVariables false
set_option linter.unusedSimpArgs false

/-- how far a line is cut: where, the words, the word that is being cut, its text. -/
structure CS where
  wh : Nat
  ws : List W3
  wd : W3
  tx : ByteArray
def emp : ByteArray := ⟨#[]⟩
def cs0 : CS := ⟨0, [], ⟨emp, 0, false⟩, emp⟩
def CS.fin (S : CS) : CS := ⟨S.wh, S.ws ++ [⟨S.tx, S.wd.c, S.wd.q⟩], ⟨S.tx, S.wd.c, S.wd.q⟩, emp⟩
def CS.to (S : CS) (n : Nat) : CS := ⟨n, S.ws, S.wd, S.tx⟩
def CS.add (S : CS) (t : ByteArray) : CS := ⟨S.wh, S.ws, S.wd, S.tx ++ t⟩
def CS.beg (S : CS) (k : Nat) (q : Bool) : CS := ⟨S.wh, S.ws, ⟨emp, k, q⟩, S.tx⟩
/-- one character on. -/
def stp (t : ByteArray) (k : Nat) (S : CS) : Option CS :=
  match S.wh with
  | 0 => some (if bl1 t = true then S else if t.toList = [35] then (S.beg k false).to 5 else if t.toList = [34] then (S.beg k true).to 2 else ((S.beg k false).add t).to 1)
  | 1 => if t.toList = [34] then none else some (if bl1 t = true then S.fin.to 0 else S.add t)
  | 2 => some (if t.toList = [92] then S.to 3 else if t.toList = [34] then S.fin.to 4 else S.add t)
  | 3 => some ((S.add t).to 2)
  | 4 => if bl1 t = true then some (S.to 0) else none
  | _ => some S

/-- the cutter in memory. -/
def cuA (S : CS) (vw ad vb : Value) : Array Value := #[.int .i64 (S.wh : Int), vw, .string S.wd.t, .int .i64 S.wd.c, .bool S.wd.q, ad, vb]
structure Cu (w : World) (B b : Nat) (S : CS) : Prop where
  le : B ≤ b
  st : ∃ vw ad vb, Fb w b 5 101 (cuA S vw ad vb) ∧ OwnR w B vw S.ws ∧ Own w B vb (bn S.tx) ∧ (bn S.tx = [] → vb = .slice none 0 0)
/-- what a method may change. -/
structure Fr (B : Nat) (w w' : World) : Prop where
  below : Below B w w'
  iter : ∀ (k : Nat) (s : ByteArray) (p : Nat), w.heap[k]? = some (.stringIter s p) → w'.heap[k]? = some (.stringIter s p)
theorem Fr.refl (B : Nat) (w : World) : Fr B w w := ⟨Below.refl _ _, fun _ _ _ h => h⟩
theorem Fr.trans {B : Nat} {x y z : World} (h : Fr B x y) (k : Fr B y z) : Fr B x z := ⟨h.below.trans k.below, fun i s p e => k.iter i s p (h.iter i s p e)⟩
theorem Wrote.fr {B b : Nat} {w w' : World} {c : Array Value} {T : TypeId} {fz : Nat × Nat} (h : Wrote B b w w') (hb : w.heap[b]? = some (.cells c T fz)) : Fr B w w' :=
  ⟨h.below, fun k s p e => h.others.iter e (fun kb => by subst kb; rw [e] at hb; cases hb)⟩
theorem word_ne : (64 : TypeId) ≠ 5 := by decide
theorem cut_ne : (101 : TypeId) ≠ 5 := by decide
theorem cut_ne2 : (101 : TypeId) ≠ 64 := by decide
set_option maxRecDepth 100000 in
theorem lies_cut : liesAt Tryz.prog Tryz.prog.depth 101 (7 / Tryz.prog.cellsOf 101) 5 99 1 = true := by kernel_rfl
theorem ownR_kind {w : World} {base : Nat} {v : Value} {l : List W3} (h : OwnR w base v l) : ∀ g, v.ownBlock = some g → ∃ c, w.heap[g]? = some (.cells c 64 (0, 0)) := by
  intro g hg
  rcases h.2 with ⟨rfl, _⟩ | ⟨g', cap, cur, rfl, _, hgg, _⟩
  · simp [Value.ownBlock] at hg
  · simp [Value.ownBlock] at hg
    subst hg
    exact ⟨cur, hgg⟩
theorem ownR_keep {w w' : World} {base : Nat} {v : Value} {l : List W3} (h : OwnR w base v l) (hk : ∀ g, v.ownBlock = some g → w'.heap[g]? = w.heap[g]?) : OwnR w' base v l := by
  refine ⟨h.1, h.2.imp id ?_⟩
  rintro ⟨g, cap, cur, hv, hg, hh, r⟩
  exact ⟨g, cap, cur, hv, hg, (hk g (by rw [hv]; rfl)).trans hh, r⟩
theorem ownR_wrote {w w' : World} {B b base : Nat} {v : Value} {l : List W3} (h : OwnR w base v l) (W : Wrote B b w w') {c : Array Value} {T : TypeId} {fz : Nat × Nat} (hb : w.heap[b]? = some (.cells c T fz)) (hT : T ≠ 64) : OwnR w' base v l := by
  refine ownR_keep h fun g hg => ?_
  obtain ⟨c', h'⟩ := ownR_kind h g hg
  rw [h']
  refine W.others g _ h' ?_ ?_
  · intro e
    cases e
    rw [h'] at hb
    simp only [Option.some.injEq, Obj.cells.injEq] at hb
    exact hT hb.2.1.symm
  · intro c2 fz2 e
    simp only [Obj.cells.injEq] at e
    exact word_ne e.2.1

theorem Cu.write {w : World} {B b : Nat} {S : CS} (h : Cu w B b S) {r : Nat} {t : ByteArray} (c : Ch r t) (hn : S.tx.size + 4 ≤ 140737488355328) :
    Calls Tryz.prog 81 #[.pointer (some ⟨b, 5, none⟩), .int .i32 r] w fun e w' => (∃ n, e = .returned (.tuple #[.int .i64 n, .nilIface])) ∧ Cu w' B b (S.add t) ∧ Fr B w w' := by
  obtain ⟨hB, vw, ad, vb, F, ow, ob, hz⟩ := h
  have le := c.le
  refine (WriteRune_c F hB (v := vb) rfl ob (by rw [bn_len]; exact hn) r (by omega) (by omega)).mono ?_
  rintro e w' ⟨he, v', F', own', W⟩
  refine ⟨he, ⟨hB, vw, pt b 5, v', F', ownR_wrote ow W F.heap cut_ne2, ?_, ?_⟩, W.fr F.heap⟩
  · show Own w' B v' (bn (S.tx ++ t))
    rw [bn_app, ← c.rb]
    exact own'
  · intro h0
    exfalso
    have h1 : bn (S.tx ++ t) = [] := h0
    rw [bn_app, ← c.rb] at h1
    have h2 := congrArg List.length h1
    rw [List.length_append, rb_len] at h2
    have := Lib.runeCells_le (r : Int)
    rw [List.length_nil] at h2
    omega
/-- a store into the cutter's first field. -/
theorem Cu.set {w : World} {B b : Nat} {S : CS} (h : Cu w B b S) (n : Nat) : Cu (w.setCell ⟨b, 0, none⟩ (.int .i64 (n : Int))) B b (S.to n) ∧ Fr B w (w.setCell ⟨b, 0, none⟩ (.int .i64 (n : Int))) := by
  obtain ⟨hB, vw, ad, vb, F, ow, ob, hz⟩ := h
  have W := (Wrote.refl B b w).set hB 0 (.int .i64 (n : Int))
  refine ⟨⟨hB, vw, ad, vb, ⟨heap_set F.heap 0 _, F.kind, F.room, F.lies, F.addr⟩, ownR_wrote ow W F.heap cut_ne2, own_set ob (own_ne ob F.heap F.kind) _ _, hz⟩, W.fr F.heap⟩
theorem Cu.begin {w : World} {B b : Nat} {S : CS} (h : Cu w B b S) (k : Nat) (q : Bool) :
    Cu (((w.setCell ⟨b, 2, none⟩ (.string emp)).setCell ⟨b, 3, none⟩ (.int .i64 (k : Int))).setCell ⟨b, 4, none⟩ (.bool q)) B b (S.beg k q) ∧ Fr B w (((w.setCell ⟨b, 2, none⟩ (.string emp)).setCell ⟨b, 3, none⟩ (.int .i64 (k : Int))).setCell ⟨b, 4, none⟩ (.bool q)) := by
  obtain ⟨hB, vw, ad, vb, F, ow, ob, hz⟩ := h
  have W := (((Wrote.refl B b w).set hB 2 (.string emp)).set hB 3 (.int .i64 (k : Int))).set hB 4 (.bool q)
  have ne := own_ne ob F.heap F.kind
  refine ⟨⟨hB, vw, ad, vb, ⟨heap_set (heap_set (heap_set F.heap 2 _) 3 _) 4 _, F.kind, F.room, F.lies, F.addr⟩, ownR_wrote ow W F.heap cut_ne2, own_set (own_set (own_set ob ne _ _) ne _ _) ne _ _, hz⟩, W.fr F.heap⟩
theorem Cu.cells {w : World} {B b : Nat} {S : CS} (h : Cu w B b S) : ∃ vw ad vb, w.cell? ⟨b, 0, none⟩ = some (.int .i64 (S.wh : Int)) ∧ w.cell? ⟨b, 1, none⟩ = some vw ∧ w.cell? ⟨b, 2, none⟩ = some (.string S.wd.t) ∧ w.cell? ⟨b, 3, none⟩ = some (.int .i64 S.wd.c) ∧ w.cell? ⟨b, 4, none⟩ = some (.bool S.wd.q) ∧ w.cell? ⟨b, 5, none⟩ = some ad ∧ w.cell? ⟨b, 6, none⟩ = some vb ∧ (∀ i, w.frozen? ⟨b, i, none⟩ = false) := by
  obtain ⟨hB, vw, ad, vb, F, ow, ob, hz⟩ := h
  exact ⟨vw, ad, vb, F.cell 0, F.cell 1, F.cell 2, F.cell 3, F.cell 4, F.cell 5, F.cell 6, F.cold⟩
set_option maxRecDepth 100000 in
theorem Cu.new (w : World) (B : Nat) (hB : B ≤ w.heap.size) : Cu (w.alloc (.cells #[.int .i64 0, .slice none 0 0, .string ⟨#[]⟩, .int .i64 0, .bool false, .pointer none, .slice none 0 0] 101)) B w.heap.size cs0 :=
  ⟨hB, .slice none 0 0, .pointer none, .slice none 0 0, ⟨heap_alloc_new w _, cut_ne, by decide, lies_cut, .inl rfl⟩, OwnR.nil _ _, Own.nil _ _, fun _ => rfl⟩
end Go.Proofs.YtoecgabdjpgleaaGreatDoor.Wd
namespace Go.Proofs.YtoecgabdjpgleaaGreatDoor.Wd
open Go.ChangeShapes Go.WideShapes Go.ChangeAt Go.RowKit Go.Joins By
set_option linter.unusedVariables false
set_option linter.unusedSimpArgs false

theorem app3k {w : World} {base : Nat} {v : Value} {l : List W3} (h : OwnR w base v l) (x : W3) (hb : base ≤ w.heap.size) (hn : (l.length + 1) * 32 ≤ 140737488355328) (ty : TypeId) :
    ∃ v' w', (Builtin.append_ #[57, 57] ty #[v, .slice (some ⟨w.heap.size, 0, none⟩) 1 1]).run Tryz.prog (w.alloc (.cells #[.string x.t, .int .i64 x.c, .bool x.q] 64)) = .ok v' w' ∧ OwnR w' base v' (l ++ [x]) ∧ (w.alloc (.cells #[.string x.t, .int .i64 x.c, .bool x.q] 64)).grownBy w' v.ownBlock := by
  obtain ⟨i, hi, hz, hs, hby⟩ := info_parts3 info_word
  obtain ⟨v', w', hr, ho, hg, _, _⟩ := run_append_own_at (P := Tryz.prog) (w.alloc (.cells #[.string x.t, .int .i64 x.c, .bool x.q] 64)) base 57 ty 64 i (.agg #[.string ⟨#[]⟩, .int .i64 0, .bool false]) 3 32 Tryz.underlying57 hi hz hs hby rfl (by decide) v l.length (w3 l) (World.ownsRow.alloc h _) ⟨w.heap.size, 0, none⟩ 1 1 (w3 [x]) rfl
    (by
      intro j u hj
      match j, hj with
      | 0, hj => simp [w3] at hj; subst hj; simp [Addr.add, go_sem]
      | 1, hj => simp [w3] at hj; subst hj; simp [Addr.add, go_sem]
      | 2, hj => simp [w3] at hj; subst hj; simp [Addr.add, go_sem]
      | j + 3, hj => simp [w3] at hj) (w3_one _) (by unfold maxLen; omega) (by omega) (by simp; omega)
  refine ⟨v', w', hr, ?_, hg⟩
  unfold OwnR
  rw [w3_app, List.length_append]
  exact ho
theorem ownR_form {w : World} {base : Nat} {v : Value} {l : List W3} (h : OwnR w base v l) : ∃ a cap, v = .slice a l.length cap := by
  rcases h.2 with ⟨hv, h0⟩ | ⟨g, cap, cur, hv, _⟩
  · exact ⟨none, 0, by rw [hv, h0]⟩
  · exact ⟨_, cap, hv⟩
theorem ownR_ne {w : World} {base : Nat} {v : Value} {l : List W3} (h : OwnR w base v l) {b : Nat} {c : Array Value} {T : TypeId} {fz : Nat × Nat} (hb : w.heap[b]? = some (.cells c T fz)) (hT : T ≠ 64) : v.ownBlock ≠ some b := by
  intro e
  obtain ⟨c', h'⟩ := ownR_kind h b e
  rw [hb] at h'
  simp only [Option.some.injEq, Obj.cells.injEq] at h'
  exact hT h'.2.1
/-- behind an append to the words. -/
theorem words_grown {B b : Nat} {w w1 w2 : World} {v : Value} {l : List W3} {ob : Obj} {c : Array Value} (F : Fb w1 b 5 101 c) (hB : B ≤ w1.heap.size) (own : OwnR w1 B v l) (W : Fr B w w1) (hg : (w1.alloc ob).grownBy w2 v.ownBlock) :
    Fb w2 b 5 101 c ∧ Fr B w w2 := by
  have hne := ownR_ne own F.heap cut_ne2
  refine ⟨F.keep ?_, ?_, ?_⟩
  · rw [hg.block b (by have := F.lt; simp; omega) (fun e => hne e.symm)]
    exact Lib.alloc_old w1 _ b F.lt
  · exact (W.below.alloc hB _).grown hg (by simp; omega) own.block
  · intro k s p e
    have e1 := W.iter k s p e
    have lt : k < w1.heap.size := (Array.getElem?_eq_some_iff.1 e1).1
    rw [hg.block k (by simp; omega) (fun e2 => by
      obtain ⟨c', h'⟩ := ownR_kind own k e2.symm
      rw [e1] at h'; cases h')]
    exact (Lib.alloc_old w1 _ k lt).trans e1
theorem Fr.set {B b : Nat} {w w1 : World} (W : Fr B w w1) {c : Array Value} {T : TypeId} {fz : Nat × Nat} (hb : w1.heap[b]? = some (.cells c T fz)) (hB : B ≤ b) (i : Nat) (v : Value) : Fr B w (w1.setCell ⟨b, i, none⟩ v) := by
  refine ⟨W.below.setCell hB _, fun k s p e => ?_⟩
  have e1 := W.iter k s p e
  rw [heap_set_other]
  · exact e1
  · rintro rfl
    rw [e1] at hb; cases hb
theorem bs8_nil_iff {t : ByteArray} : bn t = [] ↔ t = emp := by
  constructor
  · intro h
    rw [← bs8_bn t, h]; rfl
  · rintro rfl; rfl

set_option maxRecDepth 100000 in
set_option maxHeartbeats 4000000 in
theorem finish_c {w : World} {B b : Nat} {S : CS} (h : Cu w B b S) (hn : (S.ws.length + 1) * 32 ≤ 140737488355328) :
    Calls Tryz.prog 83 #[.pointer (some ⟨b, 0, none⟩)] w fun e w' => e = .returned (.tuple #[]) ∧ Cu w' B b S.fin ∧ Fr B w w' := by
  obtain ⟨hB, vw, ad, vb, F, ow, ob, hz⟩ := h
  have SC := String_c F hB (v := vb) rfl ob (bn_byte _) hz
  rw [bs8_bn] at SC
  have lt := F.lt
  unfold pt at *
  go_enter Tryz.func83, Tryz.ntmps83
  go_wp2_with fail
  refine SC.mono ?_
  rintro e w1 ⟨rfl, F1, W1⟩
  have lt1 := F1.lt
  have ow1 := ownR_wrote ow W1 F.heap cut_ne2
  have R1 := W1.fr F.heap
  have d2 : w1.cell? ⟨b, 2, none⟩ = some (.string S.wd.t) := F1.cell 2
  have z2 := F1.cold 2
  have F2 : Fb (w1.setCell ⟨b, 2, none⟩ (.string S.tx)) b 5 101 #[.int .i64 (S.wh : Int), vw, .string S.tx, .int .i64 S.wd.c, .bool S.wd.q, ad, vb] := ⟨heap_set F1.heap 2 _, F1.kind, F1.room, F1.lies, F1.addr⟩
  have ow2 : OwnR (w1.setCell ⟨b, 2, none⟩ (.string S.tx)) B vw S.ws := ownR_keep ow1 fun g hg => heap_set_other _ _ (fun e => ownR_ne ow1 F1.heap cut_ne2 (e ▸ hg))
  have R2 := R1.set F1.heap hB 2 (.string S.tx)
  have P2 := Lib.hid (And.intro F2 (And.intro ow2 R2))
  clear F2 ow2 R2 R1 ow1 W1 F1 SC ob hz
  go_upto_region 1 with fail
  generalize w1.setCell ⟨b, 2, none⟩ (.string S.tx) = w2 at *
  obtain ⟨F2, ow2, R2⟩ := P2.out
  have F2 : Fb w2.drew b 5 101 #[.int .i64 (S.wh : Int), vw, .string S.tx, .int .i64 S.wd.c, .bool S.wd.q, ad, vb] := F2.keep rfl
  have ow2 : OwnR w2.drew B vw S.ws := ow2
  have R2 : Fr B w w2.drew := R2.trans ⟨bdrew1 _ _, fun _ _ _ h => h⟩
  have lt2 := F2.lt
  obtain ⟨v', w3, hr, ow3, hg⟩ := app3k ow2 ⟨S.tx, S.wd.c, S.wd.q⟩ (by omega) hn 57
  obtain ⟨F3, R3⟩ := words_grown F2 (by omega) ow2 R2 hg
  obtain ⟨a', cap', e'⟩ := ownR_form ow3
  rw [List.length_append, List.length_singleton] at e'
  subst e'
  obtain ⟨aw, capw, ew⟩ := ownR_form ow
  subst ew
  have F4 : Fb (w3.setCell ⟨b, 1, none⟩ (.slice a' (S.ws.length + 1) cap')) b 5 101 #[.int .i64 (S.wh : Int), .slice a' (S.ws.length + 1) cap', .string S.tx, .int .i64 S.wd.c, .bool S.wd.q, ad, vb] := ⟨heap_set F3.heap 1 _, F3.kind, F3.room, F3.lies, F3.addr⟩
  have ow4 : OwnR (w3.setCell ⟨b, 1, none⟩ (.slice a' (S.ws.length + 1) cap')) B (.slice a' (S.ws.length + 1) cap') (S.ws ++ [⟨S.tx, S.wd.c, S.wd.q⟩]) := ownR_keep ow3 fun g hg => heap_set_other _ _ (fun e => ownR_ne ow3 F3.heap cut_ne2 (e ▸ hg))
  have R4 := R3.set F3.heap hB 1 (.slice a' (S.ws.length + 1) cap')
  have P4 := Lib.hid (And.intro F4 (And.intro ow4 R4))
  have RA : Hid ((Builtin.append_ #[57, 57] 57 #[.slice aw S.ws.length capw, .slice (some ⟨w2.heap.size, 0, none⟩) 1 1]).run Tryz.prog (w2.drew.alloc (.cells #[.string S.tx, .int .i64 S.wd.c, .bool S.wd.q] 64)) = .ok (.slice a' (S.ws.length + 1) cap') w3) := Lib.hid hr
  have g1 : w2.cell? ⟨b, 1, none⟩ = some (.slice aw S.ws.length capw) := F2.cell 1
  have g2 : w2.cell? ⟨b, 2, none⟩ = some (.string S.tx) := F2.cell 2
  have g3 : w2.cell? ⟨b, 3, none⟩ = some (.int .i64 S.wd.c) := F2.cell 3
  have g4 : w2.cell? ⟨b, 4, none⟩ = some (.bool S.wd.q) := F2.cell 4
  have q1 : (w2.alloc (.cells #[.string S.tx, .int .i64 S.wd.c, .bool S.wd.q] 64)).cell? ⟨b, 1, none⟩ = some (.slice aw S.ws.length capw) := by
    have e := Lib.alloc_old w2 (.cells #[.string S.tx, .int .i64 S.wd.c, .bool S.wd.q] 64) b lt2
    have F5 := F2.keep (w' := w2.alloc (.cells #[.string S.tx, .int .i64 S.wd.c, .bool S.wd.q] 64)) e
    exact F5.cell 1
  have m1 : w3.cell? ⟨b, 1, none⟩ = some (.slice aw S.ws.length capw) := F3.cell 1
  have y1 := F3.cold 1
  clear hr F4 ow4 R4 F2 R2 F3 R3 ow3 ow2 hg ow
  go_region_law (refine step_append_eq rfl (.tmp 14) (.tmp 19) 57 rfl _ _ (.slice a' (S.ws.length + 1) cap') w3 rfl rfl RA.out ?_)
  all_goals
   go_wp2_with fail
   generalize w3.setCell ⟨b, 1, none⟩ (.slice a' (S.ws.length + 1) cap') = w4 at *
   refine (Reset_c P4.out.1 hB).mono ?_
   rintro e w5 ⟨rfl, F5, hk5, hs5, W5⟩
   have ow5 := ownR_wrote P4.out.2.1 W5 P4.out.1.heap cut_ne2
   have P5 : Hid (Cu w5 B b S.fin ∧ Fr B w w5) := Lib.hid ⟨⟨hB, _, _, _, F5, ow5, Own.nil _ _, fun _ => rfl⟩, P4.out.2.2.trans (W5.fr P4.out.1.heap)⟩
   clear ow5 W5 F5 hk5 hs5
   go_wp2
   go_end0
   exact ⟨rfl, P5.out⟩
end Go.Proofs.YtoecgabdjpgleaaGreatDoor.Wd

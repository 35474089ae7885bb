/-
  A disk in memory: the program's (a map, the power) and the document's (a row of files).
  Conditions: none.
-/
import Derived.Test.YtkjolaoajbdomaaGreatDoorDkA
import Derived.Test.YtkjolaoajbdomaaGreatDoorCtA
import Derived.Maps.OwnSet
namespace Go.Proofs.YtkjolaoajbdomaaGreatDoor.Dk
open Go.RowKit Go.ChangeShapes Go.WideShapes Go.ChangeAt Go.Joins Go.Maps By Ct
set_option linter.unusedVariables false
set_option linter.unusedSimpArgs false

/-- w' is w but for the blocks of X, and for new ones. -/
structure Tu (X : Nat → Prop) (w w' : World) : Prop where
  os : w'.os = w.os
  tape : w'.tape = w.tape
  output : w'.output = w.output
  size : w.heap.size ≤ w'.heap.size
  block : ∀ k, k < w.heap.size → ¬ X k → w'.heap[k]? = w.heap[k]?
theorem Tu.rf (X : Nat → Prop) (w : World) : Tu X w w := ⟨rfl, rfl, rfl, Nat.le_refl _, fun _ _ _ => rfl⟩
theorem Tu.tr {X Y : Nat → Prop} {a b c : World} (h : Tu X a b) (k : Tu Y b c) (hY : ∀ i, i < a.heap.size → Y i → X i) : Tu X a c :=
  ⟨k.os.trans h.os, k.tape.trans h.tape, k.output.trans h.output, Nat.le_trans h.size k.size, fun i hi hx => (k.block i (Nat.lt_of_lt_of_le hi h.size) (fun q => hx (hY i hi q))).trans (h.block i hi hx)⟩
theorem tu_below {X : Nat → Prop} {w w' : World} (h : Below w.heap.size w w') : Tu X w w' := ⟨h.os, h.tape, h.output, h.size, fun k hk _ => h.block k hk⟩
theorem Tu.below {X : Nat → Prop} {w w' : World} {B : Nat} (h : Tu X w w') (hX : ∀ i, X i → B ≤ i) (hB : B ≤ w.heap.size) : Below B w w' :=
  ⟨h.os, h.tape, h.output, h.size, fun k hk => h.block k (by omega) (fun q => by have := hX k q; omega)⟩
theorem tu_set {X : Nat → Prop} {w : World} {b i : Nat} {v : Value} (hb : X b) : Tu X w (w.setCell ⟨b, i, none⟩ v) :=
  ⟨rfl, rfl, rfl, by simp, fun k hk hx => set_other (fun e => hx (e ▸ hb))⟩
theorem tu_sets {X : Nat → Prop} {b : Nat} (hb : X b) : ∀ (vs : List Value) (o : Nat) (w : World), Tu X w (w.setCells b o vs)
  | [], o, w => Tu.rf X w
  | v :: vs, o, w => (tu_set (i := o) (v := v) hb).tr (tu_sets hb vs (o + 1) _) (fun _ _ q => q)
/-- one block. -/
def Td (d : Nat) : Nat → Prop := fun k => k = d
theorem Tu.set {d : Nat} {a b : World} (h : Tu (Td d) a b) (i : Nat) (v : Value) : Tu (Td d) a (b.setCell ⟨d, i, none⟩ v) := h.tr (tu_set (X := Td d) rfl) (fun _ _ q => q)
theorem tu_turned {X : Nat → Prop} {w w' : World} {b : Nat} (hb : X b) (h : w.mapTurned w' b) : Tu X w w' := by
  have g := h.grown
  exact ⟨g.os, g.tape, g.output, g.size, fun k hk hx => g.block k hk (fun e => hx (by cases e; exact hb))⟩
theorem tu_alloc {X : Nat → Prop} (w : World) (o : Obj) : Tu X w (w.alloc o) := tu_below (balloc (brefl w) o)
theorem tu_drew {X : Nat → Prop} (w : World) (n : Nat) : Tu X w (w.drewN n) := tu_below (bdrew (brefl w) n)
theorem Tu.mono {X Y : Nat → Prop} {w w' : World} (h : Tu X w w') (hX : ∀ i, X i → Y i) : Tu Y w w' := ⟨h.os, h.tape, h.output, h.size, fun k hk q => h.block k hk (fun x => q (hX k x))⟩
/-- what stands in X's way stands as it stood. -/
theorem Tu.apart {X Y : Nat → Prop} {w w' : World} (h : Tu X w w') (hY : ∀ k, Y k → k < w.heap.size) (hd : ∀ k, X k → ¬ Y k) : ∀ k, Y k → w'.heap[k]? = w.heap[k]? := fun k q => h.block k (hY k q) (fun x => hd k x q)
theorem blk_keep {w w' : World} {b : Nat} {vs : List Value} (h : Blk w b vs) (e : w'.heap[b]? = w.heap[b]?) (hs : w.heap.size ≤ w'.heap.size) : Blk w' b vs :=
  ⟨Nat.lt_of_lt_of_le h.1 hs, fun i x hx => ⟨(World.cell?_of_block (a := ⟨b, i, none⟩) e).trans (h.2 i x hx).1, (World.frozen?_of_block (a := ⟨b, i, none⟩) e).trans (h.2 i x hx).2⟩⟩
theorem map_keep {H : Type} {w w' : World} {P : Program} {k : TypeId} {R : Value → Option (DataW H × List MemPlace)} {b n : Nat} {D : DataW H} (h : w.ownsMap P k R b n D) (e : w'.heap[b]? = w.heap[b]?) : w'.ownsMap P k R b n D := by
  obtain ⟨es, clock, hb, r⟩ := h
  exact ⟨es, clock, e.trans hb, r⟩
/-- an element of the map, as itself. -/
def RV (v : Value) : Option (DataW Value × List MemPlace) := some (.held v, [])
/-- D has just the files l, their bytes in blocks of X. -/
def MapF (w : World) (X : Nat → Prop) (D : DataW Value) (l : List (List UInt8 × List Nat)) : Prop :=
  ∀ n, (get l n = none → has D (.string n) = false) ∧ ∀ d, get l n = some d → ∃ v, (∀ z, D.atKey (.string n) z = .held v) ∧ By.Own w 0 v d ∧ ∀ g, v.ownBlock = some g → X g
theorem mapF_keep {w w' : World} {X X' : Nat → Prop} {D : DataW Value} {l : List (List UInt8 × List Nat)} (h : MapF w X D l) (e : ∀ k, X k → w'.heap[k]? = w.heap[k]?) (hX : ∀ k, X k → X' k) : MapF w' X' D l := fun n => by
  refine ⟨(h n).1, fun d hd => ?_⟩
  obtain ⟨v, hv, ho, hb⟩ := (h n).2 d hd
  exact ⟨v, hv, row_keep ho (fun g hg => e g (hb g hg)), fun g hg => hX g (hb g hg)⟩
theorem str_inj {n m : List UInt8} : Lit.string n = Lit.string m ↔ n = m := by simp
theorem mapF_put {w : World} {X : Nat → Prop} {D : DataW Value} {l : List (List UInt8 × List Nat)} (h : MapF w X D l) (hD : IsMap D) (n : List UInt8) {v : Value} {d : List Nat} (ho : By.Own w 0 v d) (hb : ∀ g, v.ownBlock = some g → X g) :
    MapF w X (D.put (.string n) (.held v)) (put l n d) := fun m => by
  by_cases c : m = n
  · subst c
    rw [get_put_same]
    exact ⟨fun q => (by cases q), fun d' q => by cases q; exact ⟨v, fun z => atKey_put_same hD (show WideAt.IsKeyLit (Lit.string m) from trivial) _ z, ho, hb⟩⟩
  · have c' : Lit.string m ≠ Lit.string n := fun q => c (str_inj.1 q)
    rw [get_put_other l c]
    refine ⟨fun q => by rw [has_put_other c']; exact (h m).1 q, fun d' q => ?_⟩
    obtain ⟨u, hu, r⟩ := (h m).2 d' q
    exact ⟨u, fun z => by rw [atKey_put_other c']; exact hu z, r⟩
theorem mapF_del {w : World} {X : Nat → Prop} {D : DataW Value} {l : List (List UInt8 × List Nat)} (h : MapF w X D l) (n : List UInt8) : MapF w X (D.del (.string n)) (gone l n) := fun m => by
  by_cases c : m = n
  · subst c
    rw [get_gone_same]
    exact ⟨fun _ => has_del_same, fun d' q => by cases q⟩
  · have c' : Lit.string m ≠ Lit.string n := fun q => c (str_inj.1 q)
    rw [get_gone_other c]
    refine ⟨fun q => by rw [has_del_other c']; exact (h m).1 q, fun d' q => ?_⟩
    obtain ⟨u, hu, r⟩ := (h m).2 d' q
    exact ⟨u, fun z => by rw [atKey_del_other c']; exact hu z, r⟩
theorem mapF_nil (w : World) (X : Nat → Prop) : MapF w X (.map []) [] := fun n => ⟨fun _ => rfl, fun d q => by cases q⟩
theorem mapF_has {w : World} {X : Nat → Prop} {D : DataW Value} {l : List (List UInt8 × List Nat)} (h : MapF w X D l) (n : List UInt8) : has D (.string n) = (get l n).isSome := by
  cases q : get l n with
  | none => rw [(h n).1 q]; rfl
  | some d =>
    obtain ⟨v, hv, _⟩ := (h n).2 d q
    rw [has_true_of_atKey hv]; rfl
theorem KS : Keyed Tryz.prog 9 := string_keyed Tryz.underlying9
theorem own_size {w : World} {b n : Nat} {D : DataW Value} (h : w.ownsMap Tryz.prog 9 RV b n D) : w.ownsMap Tryz.prog 9 RV b (size D) D := by
  obtain ⟨es, clock, hb, F, hs, rfl⟩ := h
  exact ⟨es, clock, hb, F, by simp [size, length_sorted], rfl⟩
/-- the map's keys are the files' names. -/
theorem mapF_keys {w : World} {X : Nat → Prop} {b n : Nat} {D : DataW Value} {l : List (List UInt8 × List Nat)} (h : MapF w X D l) (ho : w.ownsMap Tryz.prog 9 RV b n D) (hn : (l.map (·.1)).Nodup) : (l.map (·.1)).Perm (strKeys D) := by
  obtain ⟨es, rfl, hp⟩ := ho.tidy KS
  obtain ⟨es', hD', hko⟩ := ho.keysOf
  obtain rfl : es = es' := by simpa using hD'
  refine perm_strKeys hp (fun p hp' => ?_) hn fun x => ?_
  · obtain ⟨v, hv⟩ := hko p hp'
    obtain ⟨x, _, hx, _⟩ := keyOf_str Tryz.underlying9 hv
    exact ⟨x, hx⟩
  · rw [mapF_has h x]
    cases q : get l x with
    | none => simp [get_none.1 q]
    | some d => simp only [Option.isSome_some, iff_true]; exact List.mem_map.2 ⟨_, get_mem q, rfl⟩
theorem mapF_size {w : World} {X : Nat → Prop} {b n : Nat} {D : DataW Value} {l : List (List UInt8 × List Nat)} (h : MapF w X D l) (ho : w.ownsMap Tryz.prog 9 RV b n D) (hn : (l.map (·.1)).Nodup) : size D = l.length := by
  have := (mapF_keys h ho hn).length_eq
  obtain ⟨es, rfl⟩ := ho.isMap
  simpa [strKeys, size] using this.symm
/-- the power, as the program has it. -/
def Pw (s : Dk) (o c : Bool) (a k : Int) : Prop := o = s.out ∧ (s.out = false → c = decide (0 ≤ s.left) ∧ (c = true → a = s.left ∧ k = s.keep)) ∧ -9223372036854775808 ≤ a ∧ a ≤ 9223372036854775807 ∧ -9223372036854775808 ≤ k ∧ k ≤ 9223372036854775807
/-- the files, as the program has them. -/
def Pf (w : World) (d : Nat) (X : Nat → Prop) (mv : Option Nat) (l : List (List UInt8 × List Nat)) : Prop :=
  match mv with
  | none => l = []
  | some b => X b ∧ b ≠ d ∧ ∃ D n, w.ownsMap Tryz.prog 9 RV b n D ∧ MapF w (fun k => X k ∧ k ≠ d) D l
/-- the program's disk at block d, in blocks of X. -/
def Pm (w : World) (d : Nat) (s : Dk) (X : Nat → Prop) : Prop :=
  Wf s ∧ X d ∧ (∀ g, X g → g < w.heap.size) ∧ ∃ mv o c a k, Blk w d [.map mv, .bool o, .bool c, .int .i64 a, .int .i64 k] ∧ Pw s o c a k ∧ Pf w d X mv s.fs
theorem Pf.keep {w w' : World} {d : Nat} {X X' : Nat → Prop} {mv : Option Nat} {l : List (List UInt8 × List Nat)} (h : Pf w d X mv l) (e : ∀ k, X k → k ≠ d → w'.heap[k]? = w.heap[k]?) (hX : ∀ k, X k → X' k) : Pf w' d X' mv l := by
  cases mv with
  | none => exact h
  | some b =>
    obtain ⟨h1, h2, D, n, h3, h4⟩ := h
    exact ⟨hX b h1, h2, D, n, map_keep h3 (e b h1 h2), mapF_keep h4 (fun k q => e k q.1 q.2) (fun k q => ⟨hX k q.1, q.2⟩)⟩
theorem Pm.keep {w w' : World} {d : Nat} {s : Dk} {X : Nat → Prop} (h : Pm w d s X) (e : ∀ k, X k → w'.heap[k]? = w.heap[k]?) (hs : w.heap.size ≤ w'.heap.size) : Pm w' d s X := by
  obtain ⟨h0, h1, h2, mv, o, c, a, k, hb, hp, hf⟩ := h
  exact ⟨h0, h1, fun g hg => Nat.lt_of_lt_of_le (h2 g hg) hs, mv, o, c, a, k, blk_keep hb (e d h1) hs, hp, hf.keep (fun k q _ => e k q) (fun k q => q)⟩
theorem Pm.below {w w' : World} {d : Nat} {s : Dk} {X : Nat → Prop} (h : Pm w d s X) (q : Below w.heap.size w w') : Pm w' d s X := h.keep (fun k hk => q.block k (h.2.2.1 k hk)) q.size
theorem Pm.tu {w w' : World} {d : Nat} {s : Dk} {X Y : Nat → Prop} (h : Pm w d s X) (q : Tu Y w w') (hd : ∀ k, Y k → ¬ X k) : Pm w' d s X := h.keep (q.apart h.2.2.1 hd) q.size
/-- a file's cells, in the document's row. -/
def st (n : List UInt8) : ByteArray := ⟨n.toArray⟩
def fc2 (p : List UInt8 × List Nat) : List Value := [.string (st p.1), .string (bs8 p.2)]
def fcs (l : List (List UInt8 × List Nat)) : List Value := l.flatMap fc2
theorem fcs_app (l k : List (List UInt8 × List Nat)) : fcs (l ++ k) = fcs l ++ fcs k := by simp [fcs]
theorem fcs_len (l : List (List UInt8 × List Nat)) : (fcs l).length = l.length * 2 := by
  induction l with
  | nil => rfl
  | cons p r ih => show (fc2 p ++ fcs r).length = _; rw [List.length_append, ih]; simp [fc2]; omega
theorem fcs_one (l : List (List UInt8 × List Nat)) : ∀ u ∈ fcs l, u.oneCell' = true := by
  intro u hu
  simp only [fcs, List.mem_flatMap] at hu
  obtain ⟨p, _, hu⟩ := hu
  simp [fc2] at hu
  rcases hu with rfl | rfl <;> rfl
theorem fcs_at : ∀ (l : List (List UInt8 × List Nat)) (j : Nat) (x : List UInt8 × List Nat), l[j]? = some x → (fcs l)[j * 2]? = some (.string (st x.1)) ∧ (fcs l)[j * 2 + 1]? = some (.string (bs8 x.2))
  | [], j, x, h => by simp at h
  | y :: r, 0, x, h => by simp at h; subst h; exact ⟨rfl, rfl⟩
  | y :: r, j + 1, x, h => by
    have := fcs_at r j x (by simpa using h)
    show (fc2 y ++ fcs r)[(j + 1) * 2]? = _ ∧ (fc2 y ++ fcs r)[(j + 1) * 2 + 1]? = _
    rw [List.getElem?_append_right (by simp [fc2]; omega), List.getElem?_append_right (by simp [fc2]; omega), show (j + 1) * 2 - (fc2 y).length = j * 2 by simp [fc2]; omega, show (j + 1) * 2 + 1 - (fc2 y).length = j * 2 + 1 by simp [fc2]; omega]
    exact this
/-- the document's row of files. -/
def OwnG (w : World) (base : Nat) (v : Value) (l : List (List UInt8 × List Nat)) : Prop := w.ownsRow base 84 2 v l.length (fcs l)
/-- the document's disk at block d, in blocks of X. -/
def Rm (w : World) (d : Nat) (s : Dk) (X : Nat → Prop) : Prop :=
  Wf s ∧ X d ∧ (∀ g, X g → g < w.heap.size) ∧ ∃ v, Blk w d [v, .bool s.out, .int .i64 s.left, .int .i64 s.keep] ∧ OwnG w 0 v s.fs ∧ ∀ g, v.ownBlock = some g → X g ∧ g ≠ d
theorem Rm.keep {w w' : World} {d : Nat} {s : Dk} {X : Nat → Prop} (h : Rm w d s X) (e : ∀ k, X k → w'.heap[k]? = w.heap[k]?) (hs : w.heap.size ≤ w'.heap.size) : Rm w' d s X := by
  obtain ⟨h0, h1, h2, v, hb, ho, hv⟩ := h
  exact ⟨h0, h1, fun g hg => Nat.lt_of_lt_of_le (h2 g hg) hs, v, blk_keep hb (e d h1) hs, row_keep ho (fun g hg => e g (hv g hg).1), hv⟩
theorem Rm.tu {w w' : World} {d : Nat} {s : Dk} {X Y : Nat → Prop} (h : Rm w d s X) (q : Tu Y w w') (hd : ∀ k, Y k → ¬ X k) : Rm w' d s X := h.keep (q.apart h.2.2.1 hd) q.size
theorem Rm.below {w w' : World} {d : Nat} {s : Dk} {X : Nat → Prop} (h : Rm w d s X) (q : Below w.heap.size w w') : Rm w' d s X := h.keep (fun k hk => q.block k (h.2.2.1 k hk)) q.size
end Go.Proofs.YtkjolaoajbdomaaGreatDoor.Dk

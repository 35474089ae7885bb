/-
  A guard: rules, hosts, how a host is seen, what is answered.
  Conditions: none.
-/
import Derived.Test.YtdngoopogajhiaaProg
import Derived.Laws.Entries
namespace Go.Proofs.Ytdngoopogajhiaa.Gu
set_option linter.unusedVariables false
set_option linter.unusedSimpArgs false

/-- a rule; a host. -/
structure Ru where
  addr : Int
  mask : Int
  flags : Int
instance : Inhabited Ru := ⟨⟨0, 0, 0⟩⟩
structure Ho where
  addr : Int
  last : Int
  count : Int
  score : Int
instance : Inhabited Ho := ⟨⟨0, 0, 0, 0⟩⟩
/-- the bits that two numbers have in common. -/
def an (a b : Int) : Int := bits BinOp.and IntKind.u32 a b
def uR (r : Ru) : Prop := (0 ≤ r.addr ∧ r.addr ≤ 4294967295) ∧ (0 ≤ r.mask ∧ r.mask ≤ 4294967295) ∧ -9223372036854775808 ≤ r.flags ∧ r.flags ≤ 9223372036854775807
def okR (r : Ru) : Prop := an r.addr r.mask = r.addr ∧ 0 ≤ r.flags ∧ r.flags ≤ 127
instance (r : Ru) : Decidable (okR r) := by unfold okR; infer_instance
/-- does the rule come ahead of the best so far? -/
def geB : Option Ru → Ru → Bool
  | none, _ => true
  | some x, r => decide (x.mask ≤ r.mask)
def pkB (a : Int) (b : Option Ru) (r : Ru) : Option Ru := if an a r.mask = r.addr ∧ geB b r = true then some r else b
def bst (a : Int) (R : List Ru) : Option Ru := R.foldl (pkB a) none
def flO : Option Ru → Int
  | none => 0
  | some r => r.flags
def flg (a : Int) (R : List Ru) : Int := flO (bst a R)
theorem take_snoc {α : Type} {L : List α} {k : Nat} {x : α} (h : L[k]? = some x) : L.take (k + 1) = L.take k ++ [x] := by
  obtain ⟨h1, h2⟩ := List.getElem?_eq_some_iff.1 h
  rw [List.take_succ_eq_append_getElem h1, h2]
theorem bst_snoc {a : Int} {R : List Ru} {k : Nat} {r : Ru} (h : R[k]? = some r) : bst a (R.take (k + 1)) = pkB a (bst a (R.take k)) r := by
  unfold bst
  rw [take_snoc h, List.foldl_append]
  rfl
theorem bst_mem {a : Int} : ∀ {R : List Ru} {b : Option Ru} {r : Ru}, R.foldl (pkB a) b = some r → r ∈ R ∨ b = some r
  | [], b, r, h => .inr h
  | x :: t, b, r, h => by
    rcases bst_mem (R := t) h with q | q
    · exact .inl (List.mem_cons_of_mem _ q)
    · unfold pkB at q
      split at q
      · simp only [Option.some.injEq] at q
        exact .inl (q ▸ List.mem_cons_self ..)
      · exact .inr q
theorem flg_in {a : Int} {R : List Ru} (h : ∀ r ∈ R, okR r) : 0 ≤ flg a R ∧ flg a R ≤ 127 := by
  unfold flg
  cases q : bst a R with
  | none => simp [flO]
  | some r =>
    rcases bst_mem (b := none) q with m | m
    · exact (h r m).2
    · cases m
/-- hosts. -/
def rest (a : Int) (H : List Ho) : List Ho := H.filter fun x => decide (x.addr ≠ a)
def hs1 (a raw : Int) (h x : Ho) : Ho := if x.addr = a then ⟨a, raw, x.count + 1, max (x.score - (raw - x.last)) 0 + 8388608⟩ else h
def hst (a raw : Int) (H : List Ho) : Ho := H.foldl (hs1 a raw) ⟨a, raw, 1, 8388608⟩
theorem hst_snoc {a raw : Int} {H : List Ho} {k : Nat} {x : Ho} (h : H[k]? = some x) : hst a raw (H.take (k + 1)) = hs1 a raw (hst a raw (H.take k)) x := by
  unfold hst
  rw [take_snoc h, List.foldl_append]
  rfl
theorem rest_yes {a : Int} {H : List Ho} {k : Nat} {x : Ho} (h : H[k]? = some x) (q : x.addr ≠ a) : rest a (H.take (k + 1)) = rest a (H.take k) ++ [x] := by
  unfold rest
  rw [take_snoc h, List.filter_append, List.filter_cons_of_pos (by simpa using q)]
  rfl
theorem rest_no {a : Int} {H : List Ho} {k : Nat} {x : Ho} (h : H[k]? = some x) (q : x.addr = a) : rest a (H.take (k + 1)) = rest a (H.take k) := by
  unfold rest
  rw [take_snoc h, List.filter_append, List.filter_cons_of_neg (by simpa using q), List.filter_nil, List.append_nil]
theorem rest_len (a : Int) (H : List Ho) : (rest a H).length ≤ H.length := List.length_filter_le _ _
/-- the front host, behind being seen. -/
def frt (a raw : Int) (H : List Ho) : Ho := ⟨a, raw, (hst a raw H).count, min (hst a raw H).score 33554432⟩
def seeH (a raw : Int) (H : List Ho) : List Ho := frt a raw H :: (rest a H).take 15
def fast (a raw : Int) (H : List Ho) : Bool := decide (33554432 < (hst a raw H).score)
theorem hst_form (a raw : Int) (H : List Ho) : (hst a raw H).addr = a ∧ (hst a raw H).last = raw := by
  unfold hst
  have : ∀ (H : List Ho) (h : Ho), h.addr = a ∧ h.last = raw → (H.foldl (hs1 a raw) h).addr = a ∧ (H.foldl (hs1 a raw) h).last = raw := by
    intro H
    induction H with
    | nil => exact fun h q => q
    | cons x r ih =>
      intro h q
      refine ih _ ?_
      unfold hs1
      split
      · exact ⟨rfl, rfl⟩
      · exact q
  exact this H _ ⟨rfl, rfl⟩
def hasF (f b : Int) : Bool := decide ((f / b) % 2 = 1)
/-- the verdict: 0 pass, 1 drop, 2 deny, 3 rate. -/
def vd (f m : Int) (q : Bool) : Int :=
  if hasF f 1 = true ∨ m = 0 ∨ m = 7 then 1 else if m = 6 then (if hasF f 4 = true then 1 else 0)
  else if hasF f 2 = true then (if hasF f 64 = true then 2 else 1)
  else if hasF f 32 = true ∧ q = true then (if hasF f 64 = true then 3 else 1) else 0
structure Gd where
  rules : List Ru
  hosts : List Ho
  last : Int
def askO (G : Gd) (m r : Int) : Prop := (0 ≤ m ∧ m ≤ 7) ∧ (0 ≤ r ∧ r ≤ 288230376151711744) ∧ G.last ≤ r
instance (G : Gd) (m r : Int) : Decidable (askO G m r) := by unfold askO; infer_instance
def askG (G : Gd) (a m r : Int) : Gd := if askO G m r then ⟨G.rules, seeH a r G.hosts, r⟩ else G
def askV (G : Gd) (a m r : Int) : Int := if askO G m r then vd (flg a G.rules) m (fast a r G.hosts) else 0
def askX (G : Gd) (m r : Int) : Int := if askO G m r then 0 else 2
def okS (R : List Ru) : Prop := (∀ r ∈ R, okR r) ∧ R.length ≤ 64
instance (R : List Ru) : Decidable (okS R) := by unfold okS; infer_instance
def newG (R : List Ru) : Gd := ⟨R, [], 0⟩
/-- a host in order, behind k packets. -/
def okH (k : Nat) (l : Int) (h : Ho) : Prop := (0 ≤ h.addr ∧ h.addr ≤ 4294967295) ∧ (0 ≤ h.last ∧ h.last ≤ l) ∧ (1 ≤ h.count ∧ h.count ≤ k) ∧ 0 ≤ h.score ∧ h.score ≤ 33554432
/-- a guard in order, behind k packets. -/
def In (k : Nat) (G : Gd) : Prop := (∀ r ∈ G.rules, uR r) ∧ okS G.rules ∧ G.hosts.length ≤ 16 ∧ (∀ h ∈ G.hosts, okH k G.last h) ∧ (G.hosts.map Ho.addr).Nodup ∧ 0 ≤ G.last ∧ G.last ≤ 288230376151711744
theorem okH.more {k k' : Nat} {l l' : Int} {h : Ho} (q : okH k l h) (hk : k ≤ k') (hl : l ≤ l') : okH k' l' h := by
  unfold okH at *
  omega
theorem hst_in {k : Nat} {a raw l : Int} (hr : l ≤ raw) (hr0 : 0 ≤ raw) {H : List Ho} (h : ∀ x ∈ H, okH k l x) : (1 ≤ (hst a raw H).count ∧ (hst a raw H).count ≤ k + 1) ∧ 0 ≤ (hst a raw H).score ∧ (hst a raw H).score ≤ 41943040 := by
  unfold hst
  have : ∀ (H : List Ho) (g : Ho), (∀ x ∈ H, okH k l x) → (1 ≤ g.count ∧ g.count ≤ (k : Int) + 1) ∧ 0 ≤ g.score ∧ g.score ≤ 41943040 → (1 ≤ (H.foldl (hs1 a raw) g).count ∧ (H.foldl (hs1 a raw) g).count ≤ (k : Int) + 1) ∧ 0 ≤ (H.foldl (hs1 a raw) g).score ∧ (H.foldl (hs1 a raw) g).score ≤ 41943040 := by
    intro H
    induction H with
    | nil => exact fun g _ q => q
    | cons x r ih =>
      intro g hH q
      refine ih _ (fun y hy => hH y (List.mem_cons_of_mem _ hy)) ?_
      have ox := hH x (List.mem_cons_self ..)
      unfold okH at ox
      unfold hs1
      split
      · simp only
        omega
      · exact q
  exact this H _ h ⟨⟨by simp, by simp; omega⟩, by simp, by simp⟩
theorem In.ask {k : Nat} {G : Gd} (h : In k G) {a : Int} (ha : 0 ≤ a ∧ a ≤ 4294967295) (m r : Int) : In (k + 1) (askG G a m r) := by
  obtain ⟨h1, h2, h3, h4, h5, h6, h7⟩ := h
  unfold askG
  by_cases q : askO G m r
  · rw [if_pos q]
    obtain ⟨_, q2, q3⟩ := q
    have hh := hst_in (a := a) (raw := r) q3 q2.1 h4
    have rm : ∀ x ∈ (rest a G.hosts).take 15, x ∈ G.hosts ∧ x.addr ≠ a := fun x hx => by
      have := List.mem_of_mem_take hx
      unfold rest at this
      have := List.mem_filter.1 this
      exact ⟨this.1, by simpa using this.2⟩
    refine ⟨h1, h2, ?_, fun x hx => ?_, ?_, q2.1, q2.2⟩
    · show (frt a r G.hosts :: (rest a G.hosts).take 15).length ≤ 16
      rw [List.length_cons, List.length_take]
      omega
    · rcases List.mem_cons.1 hx with rfl | hx
      · unfold okH frt
        simp only
        omega
      · exact (h4 x (rm x hx).1).more (by omega) q3
    · show ((frt a r G.hosts :: (rest a G.hosts).take 15).map Ho.addr).Nodup
      rw [List.map_cons, List.nodup_cons]
      refine ⟨fun z => ?_, ?_⟩
      · obtain ⟨x, hx, e⟩ := List.mem_map.1 z
        exact (rm x hx).2 e
      · refine List.Nodup.sublist (List.Sublist.map _ ?_) h5
        exact (List.take_sublist ..).trans List.filter_sublist
  · rw [if_neg q]
    exact ⟨h1, h2, h3, fun x hx => (h4 x hx).more (by omega) (Int.le_refl _), h5, h6, h7⟩
theorem new_in {R : List Ru} (h : ∀ r ∈ R, uR r) (k : okS R) : In 0 (newG R) := ⟨h, k, by simp [newG], fun x hx => absurd hx (by simp [newG]), by simp [newG], by simp [newG], by simp [newG]⟩
end Go.Proofs.Ytdngoopogajhiaa.Gu

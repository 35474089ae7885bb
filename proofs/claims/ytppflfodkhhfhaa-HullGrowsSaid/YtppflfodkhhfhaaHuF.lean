/-
  Rows of spans of the call's own; lists of spans turned and moved.
  Conditions: none.
-/
import Derived.Test.YtppflfodkhhfhaaHuE
namespace Go.Proofs.Ytppflfodkhhfhaa.Hu
open Go.RowKit Go.ChangeShapes Go.WideShapes Go.ChangeAt Go.Joins Fl
set_option linter.unusedVariables false
set_option linter.unusedSimpArgs false

def sn0 : Sn := ⟨0, 0⟩
def rcn (l : List Sn) : List Value := l.flatMap nvs
theorem rcn_app (l k : List Sn) : rcn (l ++ k) = rcn l ++ rcn k := by simp [rcn]
theorem nvs_one (s : Sn) : ∀ u ∈ nvs s, u.oneCell' = true := by
  intro u hu
  simp [nvs] at hu
  rcases hu with rfl | rfl <;> rfl
theorem rcn_one (l : List Sn) : ∀ u ∈ rcn l, u.oneCell' = true := by
  intro u hu
  obtain ⟨s, _, h⟩ := List.mem_flatMap.1 hu
  exact nvs_one s u h
theorem rcn_at : ∀ (l : List Sn) (j : Nat) (x : Sn), l[j]? = some x → ∀ i, i < 2 → (rcn l)[j * 2 + i]? = (nvs x)[i]?
  | [], j, x, h => by simp at h
  | y :: r, 0, x, h => fun i hi => by
    simp at h; subst h
    show (nvs y ++ rcn r)[0 * 2 + i]? = _
    rw [Nat.zero_mul, Nat.zero_add, List.getElem?_append_left (by rw [nvs_len]; exact hi)]
  | y :: r, j + 1, x, h => fun i hi => by
    have := rcn_at r j x (by simpa using h) i hi
    show (nvs y ++ rcn r)[(j + 1) * 2 + i]? = _
    rw [List.getElem?_append_right (by rw [nvs_len]; omega), nvs_len, show (j + 1) * 2 + i - 2 = j * 2 + i by omega]
    exact this
/-- a row of spans. -/
def OwnN (w : World) (base : Nat) (v : Value) (l : List Sn) : Prop := w.ownsRow base 25 2 v l.length (rcn l)
theorem OwnN.nil (w : World) (base : Nat) : OwnN w base (.slice none 0 0) [] := World.ownsRow_nil w base _ 2
theorem info_sn3 : (Try.prog.info? 25).map (fun i => (i.zero, i.size, i.bytes)) = some (some (.agg (nvs sn0).toArray), 2, 16) := by kernel_rfl
theorem OwnN.form {w : World} {base : Nat} {v : Value} {l : List Sn} (h : OwnN w base v l) : ∃ a cap, v = .slice a l.length cap := by
  rcases h.2 with ⟨hv, h0⟩ | ⟨g, cap, cur, hv, _⟩
  · exact ⟨none, 0, by rw [hv, h0]⟩
  · exact ⟨_, cap, hv⟩
theorem OwnN.keep {w w' : World} {base : Nat} {v : Value} {l : List Sn} (h : OwnN w base v l) (hk : ∀ g, base ≤ g → g < w.heap.size → w'.heap[g]? = w.heap[g]?) : OwnN w' base v l := by
  refine ⟨h.1, h.2.imp id ?_⟩
  rintro ⟨g, cap, cur, hv, hg, hh, r⟩
  exact ⟨g, cap, cur, hv, hg, (hk g hg (Array.getElem?_eq_some_iff.1 hh).1).trans hh, r⟩
theorem OwnN.below {w w' : World} {base : Nat} {v : Value} {l : List Sn} (h : OwnN w base v l) (q : Below w.heap.size w w') : OwnN w' base v l := h.keep fun g _ hg => q.block g hg
theorem OwnN.tu {w w' : World} {base F : Nat} {v : Value} {l : List Sn} (h : OwnN w base v l) (q : Tu (Td F) w w') (hF : F < base) : OwnN w' base v l :=
  h.keep fun g h1 h2 => q.block g h2 (fun e => by have : g = F := e; omega)
theorem appN {w : World} {base : Nat} {v : Value} {l : List Sn} (h : OwnN w base v l) (x : Sn) (hb : base ≤ w.heap.size) (hn : (l.length + 1) * 16 ≤ 140737488355328) (ty : TypeId) :
    ∃ v' w', (Builtin.append_ #[22, 22] ty #[v, .slice (some ⟨w.heap.size, 0, none⟩) 1 1]).run Try.prog (w.alloc (.cells (nvs x).toArray 25)) = .ok v' w' ∧ OwnN w' base v' (l ++ [x]) ∧ Below base w w' := by
  obtain ⟨i, hi, hz, hs, hby⟩ := info_parts3L info_sn3
  obtain ⟨v', w', hr, ho, hg, _, hob⟩ := run_append_own_at (P := Try.prog) (w.alloc (.cells (nvs x).toArray 25)) base 22 ty 25 i (.agg (nvs sn0).toArray) 2 16 Try.underlying22 hi hz hs hby rfl (by decide) v l.length (rcn l) (World.ownsRow.alloc h _) ⟨w.heap.size, 0, none⟩ 1 1 (nvs x) rfl
    (by
      intro j u hj
      have e : (⟨w.heap.size, 0, none⟩ : Addr).add j = ⟨w.heap.size, j, none⟩ := by unfold Addr.add; split <;> simp_all
      rw [e, World.cell?_alloc_mark w _ _ (0, 0) j]
      simpa using hj) (nvs_one x) (by unfold maxLen; omega) (by omega) (by simp; omega)
  have hB : Below base w (w.alloc (.cells (nvs x).toArray 25)) := (Below.refl base w).alloc hb _
  have hB2 := hB.grown hg (by simp; omega) (fun k hk => (h.lt k hk).1)
  refine ⟨v', w', hr, ?_, hB2⟩
  unfold OwnN
  rw [List.length_append, rcn_app, show rcn [x] = nvs x by simp [rcn]]
  exact ho
/-- a part of a row of the call's own, as a slice. -/
theorem OwnN.drop {w : World} {base : Nat} {v : Value} {l : List Sn} (h : OwnN w base v l) (a cap : Nat) (p : Option Addr) (e : v = .slice p l.length cap) (d : Nat) (hd : d < l.length) : ∃ g, p = some ⟨g, 0, none⟩ ∧ l.length ≤ cap ∧ cap ≤ 9223372036854775807 ∧ Lh w g (d * 2) (l.drop d) := by
  rcases h.2 with ⟨hv, h0⟩ | ⟨g, cap', cur, hv, hb, hh, hc, hm, hcs, ht⟩
  · omega
  · rw [hv] at e
    simp only [Value.slice.injEq] at e
    obtain ⟨rfl, _, rfl⟩ := e
    refine ⟨g, rfl, hc, by unfold maxLen at hm; omega, (Array.getElem?_eq_some_iff.1 hh).1, fun j s hj i u hi => ?_⟩
    rw [List.getElem?_drop] at hj
    have i2 : i < 2 := by have := (List.getElem?_eq_some_iff.1 hi).1; rwa [nvs_len] at this
    have hl := (List.getElem?_eq_some_iff.1 hj).1
    have q := rcn_at l (d + j) s hj i i2
    have hg : w.ownsRow base 25 2 (.slice (some ⟨g, 0, none⟩) l.length cap') l.length (rcn l) := hv ▸ h
    have c := hg.cellAt ((d + j) * 2 + i) (by omega)
    rw [show d * 2 + j * 2 + i = (d + j) * 2 + i by omega, c, q]
    exact hi
theorem OwnN.hs {w : World} {base : Nat} {v : Value} {l : List Sn} (h : OwnN w base v l) : Hs w v l := by
  obtain ⟨p, cap, e⟩ := h.form
  by_cases c : l = []
  · subst c
    rcases h.2 with ⟨hv, h0⟩ | ⟨g, cap', cur, hv, hb, hh, hc, hm, hcs, ht⟩
    · exact ⟨none, 0, hv, by simp, by omega, fun hn => absurd hn (by simp)⟩
    · exact ⟨_, cap', hv, hc, by unfold maxLen at hm; omega, fun hn => absurd hn (by simp)⟩
  · have hp : 0 < l.length := List.length_pos_iff.2 c
    obtain ⟨g, rfl, h1, h2, h3⟩ := h.drop 0 cap p e 0 hp
    rw [Nat.zero_mul, List.drop_zero] at h3
    exact ⟨_, cap, e, h1, h2, fun _ => ⟨g, 0, rfl, h3⟩⟩

/-- a list turned, place by place. -/
def trn (L : List Sn) (r i : Nat) : Sn := L.getD ((i + r) % L.length) default
def tl (L : List Sn) (r : Nat) : List Sn := (List.range L.length).map (trn L r)
theorem tl_eq {L : List Sn} {r : Nat} (hr : r < L.length) : tl L r = L.drop r ++ L.take r := by
  apply List.ext_getElem?
  intro i
  unfold tl
  rw [List.getElem?_map]
  by_cases hi : i < L.length
  · rw [List.getElem?_range hi]
    show some (trn L r i) = _
    unfold trn
    by_cases c : i + r < L.length
    · rw [Nat.mod_eq_of_lt c, List.getElem?_append_left (by rw [List.length_drop]; omega), List.getElem?_drop, List.getD_eq_getElem?_getD, Nat.add_comm r i, List.getElem?_eq_getElem c]
      rfl
    · rw [Nat.mod_eq_sub_mod (by omega), Nat.mod_eq_of_lt (by omega), List.getElem?_append_right (by rw [List.length_drop]; omega), List.length_drop, List.getElem?_take_of_lt (by omega), List.getD_eq_getElem?_getD, show i + r - L.length = i - (L.length - r) by omega, List.getElem?_eq_getElem (by omega)]
      rfl
  · rw [List.getElem?_eq_none (by rw [List.length_range]; omega), List.getElem?_eq_none (by rw [List.length_append, List.length_drop, List.length_take]; omega)]
    rfl
theorem tl_perm {L : List Sn} {r : Nat} (hr : r < L.length) : (tl L r).Perm L := by
  rw [tl_eq hr]
  exact turn_perm L r
theorem trn_mem {L : List Sn} {r : Nat} (hp : 0 < L.length) (i : Nat) : trn L r i ∈ L := by
  unfold trn
  have := Nat.mod_lt (i + r) hp
  rw [List.getD_eq_getElem?_getD, List.getElem?_eq_getElem this]
  exact List.getElem_mem _
theorem trn_at {L : List Sn} {r i : Nat} (hp : 0 < L.length) : L[(i + r) % L.length]? = some (trn L r i) := by
  unfold trn
  have := Nat.mod_lt (i + r) hp
  rw [List.getD_eq_getElem?_getD, List.getElem?_eq_getElem this]
  rfl
/-- moved as int64 is. -/
def mw (d : Int) (s : Sn) : Sn := ⟨IntKind.i64.wrap (s.lo + d), IntKind.i64.wrap (s.hi + d)⟩
/-- too far out. -/
def fr (s : Sn) : Bool := decide (s.lo < -1152921504606846976) || decide (1152921504606846976 < s.hi)
theorem mw_ok {s : Sn} {d : Int} (hs : i64N s) (hf : fr s = false) (h1 : -1000000 < d) (h2 : d < 1000000) : (okN (mw d s) ↔ okN s) ∧ (okN s → mw d s = mv d s ∧ -1152921504606846976 ≤ s.lo ∧ s.hi ≤ 1152921504606846976) := by
  obtain ⟨lo, hi⟩ := s
  obtain ⟨⟨a1, a2⟩, a3, a4⟩ := hs
  simp only [fr, Bool.or_eq_false_iff, decide_eq_false_iff_not] at hf a1 a2 a3 a4
  obtain ⟨f1, f2⟩ := hf
  constructor
  · unfold okN mw
    simp only
    rw [IntKind.wrap_i64, IntKind.wrap_i64]
    omega
  · intro ok
    unfold okN at ok
    simp only at ok
    refine ⟨?_, by show _ ≤ lo; omega, by show hi ≤ _; omega⟩
    unfold mw mv
    rw [wrap_in (by show _ ≤ lo + d; omega) (by show lo + d ≤ _; omega), wrap_in (by show _ ≤ hi + d; omega) (by show hi + d ≤ _; omega)]
/-- the answers of a list turned and moved. -/
theorem huA_moved {L : List Sn} {r : Nat} {d f : Int} (hr : r < L.length) (hs : ∀ s ∈ L, i64N s) (hf : ∀ s ∈ L, fr s = false) (h1 : -1000000 < d) (h2 : d < 1000000) :
    (huA ((tl L r).map (mw d)) f).2 = (huA L f).2 ∧ ((huA L f).2 = 0 → huA ((tl L r).map (mw d)) f = (((huA L f).1.1 + d, (huA L f).1.2 + d), 0) ∧ -1152921504606846976 ≤ (huA L f).1.1 ∧ (huA L f).1.2 ≤ 1152921504606846976 ∧ (huA L f).1.1 ≤ (huA L f).1.2) := by
  have pm := tl_perm hr
  have len : ((tl L r).map (mw d)).length = L.length := by rw [List.length_map, pm.length_eq]
  have okq : okL ((tl L r).map (mw d)) ↔ okL L := by
    unfold okL
    rw [len]
    refine ⟨fun q => ⟨fun s hs' => ?_, q.2⟩, fun q => ⟨fun s hs' => ?_, q.2⟩⟩
    · exact (mw_ok (hs s hs') (hf s hs') h1 h2).1.1 (q.1 _ (List.mem_map_of_mem (pm.mem_iff.2 hs')))
    · obtain ⟨x, hx, rfl⟩ := List.mem_map.1 hs'
      have hx' := pm.mem_iff.1 hx
      exact (mw_ok (hs x hx') (hf x hx') h1 h2).1.2 (q.1 x hx')
  by_cases ok : okL L
  · by_cases fn : f < 0
    · rw [huA_range (okq.2 ok) fn, huA_range ok fn]
      exact ⟨rfl, fun q => by simp at q⟩
    · by_cases fl : (L.length : Int) ≤ f
      · rw [huA_bound (okq.2 ok) fn (by rw [len]; exact fl), huA_bound ok fn fl]
        exact ⟨rfl, fun q => by simp at q⟩
      · obtain ⟨g, rfl⟩ := Int.eq_ofNat_of_zero_le (show 0 ≤ f by omega)
        have gl : g < L.length := by omega
        have eqm : (tl L r).map (mw d) = (tl L r).map (mv d) := List.map_congr_left fun s hs' => by
          have hs'' := pm.mem_iff.1 hs'
          exact ((mw_ok (hs s hs'') (hf s hs'') h1 h2).2 (ok.1 s hs'')).1
        have okq' := okq.2 ok
        rw [eqm] at len okq' ⊢
        cases hv : huV L g with
        | none =>
          have no := huV_nil gl hv
          rw [huA_none ok gl no, huA_none okq' (by rw [len]; exact gl) (fun t q => no (t - d) ((enough_perm pm g _).1 ((enough_mv d (tl L r) g t).1 q)))]
          exact ⟨rfl, fun q => by simp at q⟩
        | some p =>
          obtain ⟨m, M⟩ := p
          have H := huV_hull hv
          rw [huA_some ok gl H, huA_some okq' (by rw [len]; exact gl) (hull_mv (hull_perm pm.symm H) d)]
          refine ⟨rfl, fun _ => ⟨rfl, ?_, ?_, H.le⟩⟩
          · obtain ⟨s, hs', a, _⟩ := low_of gl H.1
            have := ((mw_ok (hs s hs') (hf s hs') h1 h2).2 (ok.1 s hs')).2.1
            show _ ≤ m
            omega
          · obtain ⟨s, hs', a, _⟩ := high_of gl H.2.1
            have := ((mw_ok (hs s hs') (hf s hs') h1 h2).2 (ok.1 s hs')).2.2
            show M ≤ _
            omega
  · rw [huA_shape (fun q => ok (okq.1 q)), huA_shape ok]
    exact ⟨rfl, fun q => by simp at q⟩
end Go.Proofs.Ytppflfodkhhfhaa.Hu

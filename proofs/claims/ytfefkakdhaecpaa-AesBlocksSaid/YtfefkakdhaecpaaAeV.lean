/-
  The tag of no bytes by the key that the document tells, worked out by literal states.
  Conditions: none.
-/
import Derived.Test.YtfefkakdhaecpaaAeT
import Derived.Test.YtfefkakdhaecpaaByH
namespace Go.Proofs.Ytfefkakdhaecpaa.Ae
open Go.RowKit By
set_option linter.unusedVariables false
set_option linter.unusedSimpArgs false

def gl (l : List Nat) (i : Nat) : Nat := l.getD i 0
theorem gl_lt {l : List Nat} (h : ∀ x ∈ l, x < 256) (i : Nat) : gl l i < 256 := by
  unfold gl
  rw [List.getD_eq_getElem?_getD]
  cases e : l[i]? with
  | none => simp
  | some x => simpa using h x (List.mem_of_getElem? e)
def knL : List Nat := [43, 126, 21, 22, 40, 174, 210, 166, 171, 247, 21, 136, 9, 207, 79, 60]
def kn (i : Nat) : Nat := gl knL i
theorem kn_lt (i : Nat) : kn i < 256 := gl_lt (by decide) i
def kwL : List Nat := [43, 126, 21, 22, 40, 174, 210, 166, 171, 247, 21, 136, 9, 207, 79, 60, 160, 250, 254, 23, 136, 84, 44, 177, 35, 163, 57, 57, 42, 108, 118, 5, 242, 194, 149, 242, 122, 150, 185, 67, 89, 53, 128, 122, 115, 89, 246, 127, 61, 128, 71, 125, 71, 22, 254, 62, 30, 35, 126, 68, 109, 122, 136, 59, 239, 68, 165, 65, 168, 82, 91, 127, 182, 113, 37, 59, 219, 11, 173, 0, 212, 209, 198, 248, 124, 131, 157, 135, 202, 242, 184, 188, 17, 249, 21, 188, 109, 136, 163, 122, 17, 11, 62, 253, 219, 249, 134, 65, 202, 0, 147, 253, 78, 84, 247, 14, 95, 95, 201, 243, 132, 166, 79, 178, 78, 166, 220, 79, 234, 210, 115, 33, 181, 141, 186, 210, 49, 43, 245, 96, 127, 141, 41, 47, 172, 119, 102, 243, 25, 250, 220, 33, 40, 209, 41, 65, 87, 92, 0, 110, 208, 20, 249, 168, 201, 238, 37, 137, 225, 63, 12, 200, 182, 99, 12, 166]
theorem kw_chk : ∀ t, t < 40 → ∀ k, k < 4 → gl kwL (16 + 4 * t + k) = gl kwL (4 * t + k) ^^^ kt (gl kwL) t k := by decide +kernel
theorem kw_key : ∀ j, j < 16 → gl kwL j = kn j := by decide +kernel
theorem kw_eq : ∀ j, j < 176 → kW kn j = gl kwL j := by
  intro j hj
  by_cases c : j < 16
  · rw [kW_key kn j c, kw_key j c]
  · have e := kW_new kn ((j - 16) / 4) (j % 4) (by omega) (by omega)
    have e2 := kw_chk ((j - 16) / 4) (by omega) (j % 4) (by omega)
    rw [show 16 + 4 * ((j - 16) / 4) + j % 4 = j from by omega] at e e2
    rw [e, e2, kw_eq (4 * ((j - 16) / 4) + j % 4) (by omega)]
    congr 1
    have h13 := kw_eq (4 * ((j - 16) / 4) + 13)
    have h14 := kw_eq (4 * ((j - 16) / 4) + 14)
    have h15 := kw_eq (4 * ((j - 16) / 4) + 15)
    have h12 := kw_eq (4 * ((j - 16) / 4) + 12)
    have hk := kw_eq (4 * ((j - 16) / 4) + 12 + j % 4)
    unfold kt
    rw [h13 (by omega), h14 (by omega), h15 (by omega), h12 (by omega), hk (by omega)]
  termination_by j => j
  decreasing_by all_goals omega
theorem cip_step {W B : Nat → Nat} {r : Nat} {a b a' : List Nat} (h : ∀ i, i < 16 → cip W B r i = gl a i) (hb : ∀ i, i < 16 → gl b i = mv (gl a) i) (hW : ∀ j, j < 176 → W j = gl kwL j) (hr : r < 9)
    (ha : ∀ i, i < 16 → gl a' i = mx (gl b) i ^^^ gl kwL (16 * (r + 1) + i)) : ∀ i, i < 16 → cip W B (r + 1) i = gl a' i := by
  intro i hi
  have e : mx (mv (cip W B r)) i = mx (gl b) i := by
    show mxs _ i 4 = mxs _ i 4
    have q : ∀ k, k ≤ 4 → mxs (mv (cip W B r)) i k = mxs (gl b) i k := by
      intro k
      induction k with
      | zero => intro _; rfl
      | succ k ih =>
        intro hk
        show mxs _ i k ^^^ gm (mv (cip W B r) (4 * (i / 4) + k)) _ = mxs _ i k ^^^ gm (gl b (4 * (i / 4) + k)) _
        rw [ih (by omega), mv_congr h, hb _ (by omega)]
    exact q 4 (by omega)
  rw [cip_succ]
  show mx _ i ^^^ W _ = _
  rw [e, hW _ (by omega), ha i hi]
theorem enc_step {W B : Nat → Nat} {a b T : List Nat} (h : ∀ i, i < 16 → cip W B 9 i = gl a i) (hb : ∀ i, i < 16 → gl b i = mv (gl a) i) (hW : ∀ j, j < 176 → W j = gl kwL j)
    (hT : ∀ i, i < 16 → gl T i = gl b i ^^^ gl kwL (160 + i)) : ∀ i, i < 16 → enc W B i = gl T i := by
  intro i hi
  show mv _ i ^^^ W _ = _
  rw [mv_congr h, ← hb i hi, hW _ (by omega), hT i hi]
def ua0 : List Nat := [43, 126, 21, 22, 40, 174, 210, 166, 171, 247, 21, 136, 9, 207, 79, 60]
def ub0 : List Nat := [241, 228, 89, 235, 52, 104, 132, 71, 98, 138, 89, 36, 1, 243, 181, 196]
theorem um0 : ∀ i, i < 16 → gl ub0 i = mv (gl ua0) i := by decide +kernel
def ua1 : List Nat := [220, 216, 127, 111, 155, 96, 170, 143, 31, 1, 15, 4, 87, 144, 162, 211]
def ub1 : List Nat := [134, 208, 118, 102, 20, 124, 58, 168, 192, 96, 210, 115, 91, 97, 172, 242]
theorem um1 : ∀ i, i < 16 → gl ub1 i = mv (gl ua1) i := by decide +kernel
def ua2 : List Nat := [158, 3, 133, 9, 68, 156, 70, 114, 195, 43, 10, 117, 56, 221, 130, 160]
def ub2 : List Nat := [11, 222, 103, 224, 27, 241, 19, 1, 46, 193, 151, 64, 7, 123, 90, 157]
theorem um2 : ∀ i, i < 16 → gl ub2 i = mv (gl ua2) i := by decide +kernel
def ua3 : List Nat := [213, 101, 103, 2, 107, 192, 49, 243, 205, 118, 100, 224, 41, 248, 252, 50]
def ub3 : List Nat := [3, 186, 67, 35, 127, 56, 176, 119, 189, 65, 133, 13, 165, 77, 199, 225]
theorem um3 : ∀ i, i < 16 → gl ub3 i = mv (gl ua3) i := by decide +kernel
def ua4 : List Nat := [92, 206, 255, 251, 217, 225, 254, 152, 156, 215, 223, 57, 123, 135, 232, 167]
def ub4 : List Nat := [74, 248, 158, 92, 53, 14, 155, 15, 222, 23, 22, 70, 33, 139, 187, 18]
theorem um4 : ∀ i, i < 16 → gl ub4 i = mv (gl ua4) i := by decide +kernel
def ua5 : List Nat := [145, 149, 183, 248, 144, 19, 154, 83, 4, 126, 151, 72, 124, 17, 228, 203]
def ub5 : List Nat := [129, 125, 136, 31, 96, 243, 105, 65, 242, 130, 169, 237, 16, 42, 184, 82]
theorem um5 : ∀ i, i < 16 → gl ub5 i = mv (gl ua5) i := by decide +kernel
def ua6 : List Nat := [100, 111, 117, 41, 247, 108, 188, 69, 253, 25, 147, 166, 126, 197, 52, 251]
def ub6 : List Nat := [67, 80, 220, 15, 104, 212, 24, 165, 84, 166, 157, 110, 243, 168, 101, 36]
theorem um6 : ∀ i, i < 16 → gl ub6 i = mv (gl ua6) i := by decide +kernel
def ua7 : List Nat := [235, 199, 86, 89, 85, 9, 177, 214, 46, 119, 46, 169, 17, 149, 33, 196]
def ub7 : List Nat := [233, 1, 49, 28, 252, 245, 253, 203, 49, 42, 177, 246, 130, 198, 200, 211]
theorem um7 : ∀ i, i < 16 → gl ub7 i = mv (gl ua7) i := by decide +kernel
def ua8 : List Nat := [13, 118, 221, 9, 100, 87, 20, 72, 106, 112, 150, 95, 42, 8, 136, 1]
def ub8 : List Nat := [215, 91, 144, 124, 67, 81, 196, 1, 2, 48, 193, 82, 229, 56, 250, 207]
theorem um8 : ∀ i, i < 16 → gl ub8 i = mv (gl ua8) i := by decide +kernel
def ua9 : List Nat := [24, 193, 85, 162, 169, 77, 94, 115, 239, 185, 116, 18, 251, 19, 120, 29]
def ub9 : List Nat := [173, 227, 146, 164, 211, 86, 188, 58, 223, 125, 252, 143, 15, 120, 88, 201]
theorem um9 : ∀ i, i < 16 → gl ub9 i = mv (gl ua9) i := by decide +kernel
theorem ux0 : ∀ i, i < 16 → gl ua1 i = mx (gl ub0) i ^^^ gl kwL (16 * (0 + 1) + i) := by decide +kernel
theorem ux1 : ∀ i, i < 16 → gl ua2 i = mx (gl ub1) i ^^^ gl kwL (16 * (1 + 1) + i) := by decide +kernel
theorem ux2 : ∀ i, i < 16 → gl ua3 i = mx (gl ub2) i ^^^ gl kwL (16 * (2 + 1) + i) := by decide +kernel
theorem ux3 : ∀ i, i < 16 → gl ua4 i = mx (gl ub3) i ^^^ gl kwL (16 * (3 + 1) + i) := by decide +kernel
theorem ux4 : ∀ i, i < 16 → gl ua5 i = mx (gl ub4) i ^^^ gl kwL (16 * (4 + 1) + i) := by decide +kernel
theorem ux5 : ∀ i, i < 16 → gl ua6 i = mx (gl ub5) i ^^^ gl kwL (16 * (5 + 1) + i) := by decide +kernel
theorem ux6 : ∀ i, i < 16 → gl ua7 i = mx (gl ub6) i ^^^ gl kwL (16 * (6 + 1) + i) := by decide +kernel
theorem ux7 : ∀ i, i < 16 → gl ua8 i = mx (gl ub7) i ^^^ gl kwL (16 * (7 + 1) + i) := by decide +kernel
theorem ux8 : ∀ i, i < 16 → gl ua9 i = mx (gl ub8) i ^^^ gl kwL (16 * (8 + 1) + i) := by decide +kernel
def uT : List Nat := [125, 247, 107, 12, 26, 184, 153, 179, 62, 66, 240, 71, 185, 27, 84, 111]
theorem ut : ∀ i, i < 16 → gl uT i = gl ub9 i ^^^ gl kwL (160 + i) := by decide +kernel
def va0 : List Nat := [92, 163, 185, 38, 66, 76, 180, 106, 82, 252, 212, 150, 237, 162, 30, 7]
def vb0 : List Nat := [74, 41, 72, 197, 44, 176, 114, 247, 0, 58, 86, 2, 85, 10, 141, 144]
theorem vm0 : ∀ i, i < 16 → gl vb0 i = mv (gl va0) i := by decide +kernel
def va1 : List Nat := [194, 255, 89, 57, 158, 98, 86, 242, 57, 47, 169, 81, 131, 49, 131, 70]
def vb1 : List Nat := [37, 170, 211, 90, 11, 21, 236, 18, 18, 199, 203, 137, 236, 22, 177, 209]
theorem vm1 : ∀ i, i < 16 → gl vb1 i = mv (gl va1) i := by decide +kernel
def va2 : List Nat := [212, 156, 73, 80, 173, 138, 82, 131, 109, 125, 88, 73, 234, 128, 29, 78]
def vb2 : List Nat := [72, 126, 106, 47, 149, 255, 164, 83, 60, 205, 59, 236, 135, 222, 0, 59]
theorem vm2 : ∀ i, i < 16 → gl vb2 i = mv (gl va2) i := by decide +kernel
def va3 : List Nat := [106, 165, 212, 239, 155, 194, 50, 103, 253, 63, 214, 53, 58, 97, 156, 1]
def vb3 : List Nat := [2, 37, 246, 124, 20, 117, 222, 223, 84, 239, 72, 133, 128, 6, 35, 150]
theorem vm3 : ∀ i, i < 16 → gl vb3 i = mv (gl va3) i := by decide +kernel
def va4 : List Nat := [14, 113, 241, 108, 30, 10, 231, 77, 249, 189, 154, 113, 127, 116, 204, 137]
def vb4 : List Nat := [171, 103, 184, 167, 114, 122, 75, 80, 153, 146, 161, 227, 210, 163, 148, 163]
theorem vm4 : ∀ i, i < 16 → gl vb4 i = mv (gl va4) i := by decide +kernel
def va5 : List Nat := [47, 192, 147, 148, 13, 136, 243, 128, 12, 79, 212, 226, 103, 114, 169, 187]
def vb5 : List Nat := [21, 196, 72, 234, 215, 132, 211, 34, 254, 64, 220, 205, 133, 186, 13, 152]
theorem vm5 : ∀ i, i < 16 → gl vb5 i = mv (gl va5) i := by decide +kernel
def va6 : List Nat := [178, 60, 199, 6, 194, 131, 182, 140, 237, 53, 215, 69, 155, 101, 5, 245]
def vb6 : List Nat := [55, 236, 14, 230, 37, 150, 107, 111, 85, 77, 198, 100, 20, 235, 78, 110]
theorem vm6 : ∀ i, i < 16 → gl vb6 i = mv (gl va6) i := by decide +kernel
def va7 : List Nat := [231, 84, 1, 98, 176, 159, 29, 191, 91, 92, 108, 14, 96, 195, 13, 10]
def vb7 : List Nat := [148, 219, 80, 103, 231, 74, 215, 170, 57, 46, 124, 8, 208, 32, 164, 171]
theorem vm7 : ∀ i, i < 16 → gl vb7 i = mv (gl va7) i := by decide +kernel
def va8 : List Nat := [152, 124, 53, 195, 195, 54, 71, 50, 69, 194, 2, 105, 171, 65, 108, 141]
def vb8 : List Nat := [70, 5, 119, 93, 46, 37, 80, 46, 110, 131, 150, 35, 98, 16, 160, 249]
theorem vm8 : ∀ i, i < 16 → gl vb8 i = mv (gl va8) i := by decide +kernel
def va9 : List Nat := [5, 255, 44, 241, 84, 64, 5, 122, 223, 32, 150, 160, 250, 28, 57, 145]
def vb9 : List Nat := [107, 9, 144, 129, 32, 183, 18, 161, 158, 156, 113, 218, 45, 22, 107, 224]
theorem vm9 : ∀ i, i < 16 → gl vb9 i = mv (gl va9) i := by decide +kernel
theorem vx0 : ∀ i, i < 16 → gl va1 i = mx (gl vb0) i ^^^ gl kwL (16 * (0 + 1) + i) := by decide +kernel
theorem vx1 : ∀ i, i < 16 → gl va2 i = mx (gl vb1) i ^^^ gl kwL (16 * (1 + 1) + i) := by decide +kernel
theorem vx2 : ∀ i, i < 16 → gl va3 i = mx (gl vb2) i ^^^ gl kwL (16 * (2 + 1) + i) := by decide +kernel
theorem vx3 : ∀ i, i < 16 → gl va4 i = mx (gl vb3) i ^^^ gl kwL (16 * (3 + 1) + i) := by decide +kernel
theorem vx4 : ∀ i, i < 16 → gl va5 i = mx (gl vb4) i ^^^ gl kwL (16 * (4 + 1) + i) := by decide +kernel
theorem vx5 : ∀ i, i < 16 → gl va6 i = mx (gl vb5) i ^^^ gl kwL (16 * (5 + 1) + i) := by decide +kernel
theorem vx6 : ∀ i, i < 16 → gl va7 i = mx (gl vb6) i ^^^ gl kwL (16 * (6 + 1) + i) := by decide +kernel
theorem vx7 : ∀ i, i < 16 → gl va8 i = mx (gl vb7) i ^^^ gl kwL (16 * (7 + 1) + i) := by decide +kernel
theorem vx8 : ∀ i, i < 16 → gl va9 i = mx (gl vb8) i ^^^ gl kwL (16 * (8 + 1) + i) := by decide +kernel
def vT : List Nat := [187, 29, 105, 41, 233, 89, 55, 40, 127, 163, 125, 18, 155, 117, 103, 70]
theorem vt : ∀ i, i < 16 → gl vT i = gl vb9 i ^^^ gl kwL (160 + i) := by decide +kernel
theorem uenc {B : Nat → Nat} (h0 : ∀ i, i < 16 → cip (kW kn) B 0 i = gl ua0 i) : ∀ i, i < 16 → enc (kW kn) B i = gl uT i := by
  have h1 := cip_step h0 um0 kw_eq (by omega) ux0
  have h2 := cip_step h1 um1 kw_eq (by omega) ux1
  have h3 := cip_step h2 um2 kw_eq (by omega) ux2
  have h4 := cip_step h3 um3 kw_eq (by omega) ux3
  have h5 := cip_step h4 um4 kw_eq (by omega) ux4
  have h6 := cip_step h5 um5 kw_eq (by omega) ux5
  have h7 := cip_step h6 um6 kw_eq (by omega) ux6
  have h8 := cip_step h7 um7 kw_eq (by omega) ux7
  have h9 := cip_step h8 um8 kw_eq (by omega) ux8
  exact enc_step h9 um9 kw_eq ut
theorem venc {B : Nat → Nat} (h0 : ∀ i, i < 16 → cip (kW kn) B 0 i = gl va0 i) : ∀ i, i < 16 → enc (kW kn) B i = gl vT i := by
  have h1 := cip_step h0 vm0 kw_eq (by omega) vx0
  have h2 := cip_step h1 vm1 kw_eq (by omega) vx1
  have h3 := cip_step h2 vm2 kw_eq (by omega) vx2
  have h4 := cip_step h3 vm3 kw_eq (by omega) vx3
  have h5 := cip_step h4 vm4 kw_eq (by omega) vx4
  have h6 := cip_step h5 vm5 kw_eq (by omega) vx5
  have h7 := cip_step h6 vm6 kw_eq (by omega) vx6
  have h8 := cip_step h7 vm7 kw_eq (by omega) vx7
  have h9 := cip_step h8 vm8 kw_eq (by omega) vx8
  exact enc_step h9 vm9 kw_eq vt
theorem u0 : ∀ i, i < 16 → gl kwL i = gl ua0 i := by decide +kernel
theorem uZ : ∀ i, i < 16 → enc (kW kn) (fun _ => 0) i = gl uT i := uenc (fun i hi => by
  rw [cip_zero]
  show 0 ^^^ kW kn i = _
  rw [Nat.zero_xor, kw_eq i (by omega), u0 i hi])
theorem v0 : ∀ i, i < 16 → ((if i = 0 then 128 else 0) ^^^ dbl (dbl (gl uT)) i) ^^^ gl kwL i = gl va0 i := by decide +kernel
theorem tg_0 (W M : Nat → Nat) : tg W M 0 = enc W (xr (fun _ => 0) (lbk W (fun i => M (16 * 0 + i)) 0)) := rfl
theorem lbk_0 (W f : Nat → Nat) (i : Nat) : lbk W f 0 i = (if i = 0 then 128 else 0) ^^^ dbl (sk W) i := by
  show pd f 0 i ^^^ (if (0 : Nat) = 16 then sk W else dbl (sk W)) i = _
  rw [if_neg (by omega)]
  unfold pd
  rw [if_neg (by omega)]
theorem sk_eq (W : Nat → Nat) : sk W = dbl (enc W (fun _ => 0)) := rfl
theorem xr_at (f g : Nat → Nat) (i : Nat) : xr f g i = f i ^^^ g i := rfl
theorem tag_kn (M : Nat → Nat) : ∀ i, i < 16 → tg (kW kn) M 0 i = gl vT i := by
  intro i hi
  rw [tg_0]
  refine venc (fun i hi => ?_) i hi
  have e : dbl (sk (kW kn)) i = dbl (dbl (gl uT)) i := by
    rw [sk_eq]
    exact dbl_congr (fun j hj => dbl_congr uZ j hj) i hi
  rw [cip_zero, xr_at, xr_at, lbk_0, e, kw_eq i (by omega), ← v0 i hi, Nat.zero_xor]
theorem hex_kn : hxL (gl vT) 16 = [98, 98, 49, 100, 54, 57, 50, 57, 101, 57, 53, 57, 51, 55, 50, 56, 55, 102, 97, 51, 55, 100, 49, 50, 57, 98, 55, 53, 54, 55, 52, 54] := by decide +kernel
end Go.Proofs.Ytfefkakdhaecpaa.Ae

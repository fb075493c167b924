/- Plain: what NodeBranches asks of a branch that a key and a page were put to. -/
import Derived.Test.YtnjpijihjifkfaaTQ
namespace Go.Proofs.Ytnjpijihjifkfaa
open Go.RowKit
set_option linter.unusedVariables false
theorem okIt_sep {key : ByteArray} (h1 : 1 ≤ key.size) (h2 : key.size ≤ 64) : okIt false (key, ByteArray.empty) = true := by
  unfold okIt
  exact decide_eq_true ⟨h1, h2, Nat.le_refl _⟩
theorem short_ok {b : Bool} {P : List It} (h : P.all (okIt b) = true) : Short P := by
  rw [List.all_eq_true] at h
  intro x hx
  have h1 := of_decide_eq_true (show decide (1 ≤ x.1.size ∧ x.1.size ≤ 64 ∧ x.2.size ≤ if b then 64 else 0) = true from h x hx)
  refine ⟨by omega, ?_⟩
  have := h1.2.2
  split at this <;> omega
theorem branch_math {I P : List It} {K KK : List Int} {key : ByteArray} {z : Int} {i : Nat} (hR : RightP I K) (hk : 0 < K.length) (h1 : 1 ≤ key.size) (h2 : key.size ≤ 64) (hz : okKid z = true) (hf : findN false I key = (i, false))
    (hP : I.take i ++ [(key, ByteArray.empty)] ++ I.drop i = P) (hKK : K.take (i + 1) ++ [z] ++ K.drop (i + 1) = KK) :
    i ≤ I.length ∧ I.length + 1 = K.length ∧ P.all (okIt false) = true ∧ RiseTo P P.length ∧ bytesN false P ≤ 543 ∧ P.length = I.length + 1 ∧ KK.length = K.length + 1 ∧ KK.all okKid = true ∧ Short P ∧ (sizeN false P ≤ 480 → RightP P KK) ∧ (480 < sizeN false P → 2 ≤ P.length) := by
  obtain ⟨g1, g2, g3, g4, g5⟩ := branch_parts hR hk
  have hh : hasN I key = false := congrArg Prod.snd hf
  have hi : posN I key = i := by
    have := congrArg Prod.fst hf
    unfold findN at this; rw [hh] at this; simpa using this
  have hpos := posN_pos I key g3
  rw [hi] at hpos
  have hput : putL I (key, ByteArray.empty) = P := by rw [put_new g3 (x := (key, ByteArray.empty)) hh]; show I.take (posN I key) ++ _ ++ I.drop (posN I key) = P; rw [hi]; exact hP
  have hok := okIt_sep h1 h2
  have e1 : P.all (okIt false) = true := by rw [← hput]; exact put_ok g2 hok
  have e2 : RiseTo P P.length := by rw [← hput]; exact rise_put g3
  have hw := wt_le hok
  have hb := put_bytes (b := false) (x := (key, ByteArray.empty)) g3
  rw [hput] at hb
  have e3 : bytesN false P ≤ 543 := by simp at hw; omega
  have hl := put_len (x := (key, ByteArray.empty)) g3
  rw [hput] at hl
  have e4 : P.length = I.length + 1 := by rw [hl]; show I.length + (if hasN I key = true then 0 else 1) = _; rw [hh]; simp
  have e5 : KK.length = K.length + 1 := by rw [← hKK]; exact putK_len (z := z) (by have := hpos.1; omega)
  have e6 : KK.all okKid = true := by rw [← hKK]; exact putK_ok g4 hz
  refine ⟨hpos.1, g1, e1, e2, e3, e4, e5, e6, short_ok e1, fun h => ?_, fun h => ?_⟩
  · unfold sizeN at h; simp at h
    exact branch_of (by omega) e1 e2 e6 (by omega)
  · unfold sizeN at h; simp at h
    cases I with
    | nil =>
      exfalso
      have : P = [(key, ByteArray.empty)] := by rw [← hP]; simp
      rw [this] at h
      simp [bytesN] at h
      simp at hw
      omega
    | cons x l => rw [e4]; simp
theorem small_partsB {I : List It} {K : List Int} (h : smallF I K = true) : Short I ∧ I.length ≤ 200 ∧ K.length ≤ 200 := by
  unfold smallF at h
  simp only [Bool.and_eq_true, decide_eq_true_eq, List.all_eq_true] at h
  refine ⟨fun x hx => ?_, h.2.1, h.2.2⟩
  have := h.1 x hx
  unfold smallIt at this
  simp only [Bool.and_eq_true, decide_eq_true_eq] at this
  omega
theorem chk_notB {I : List It} {K : List Int} (h : ¬ RightP I K) : chkE I K = 18 := if_neg h
theorem chk_yesB {I : List It} {K : List Int} (h : RightP I K) : chkE I K = 0 := if_pos h
end Go.Proofs.Ytnjpijihjifkfaa

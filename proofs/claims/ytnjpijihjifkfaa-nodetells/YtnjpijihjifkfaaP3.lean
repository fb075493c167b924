/- A node to which an item was put, and its two parts: the plain mathematics. -/
import Derived.Test.YtnjpijihjifkfaaP2
namespace Go.Proofs.Ytnjpijihjifkfaa
theorem put_sub (I : List It) (x : It) : ∃ A B, putL I x = A ++ [x] ++ B ∧ A.Sublist I ∧ B.Sublist I := ⟨_, _, rfl, List.filter_sublist, List.filter_sublist⟩
theorem put_ok {b : Bool} {I : List It} {x : It} (h : I.all (okIt b) = true) (hx : okIt b x = true) : (putL I x).all (okIt b) = true := by
  obtain ⟨A, B, he, hA, hB⟩ := put_sub I x
  rw [he]
  simp only [List.all_append, List.all_cons, List.all_nil, Bool.and_true]
  rw [all_sub hA h, all_sub hB h, hx]; rfl
theorem take_drop_bytes (b : Bool) (I : List It) (i m : Nat) (h : i ≤ m) : bytesN b (I.take i) + bytesN b (I.drop m) ≤ bytesN b I := by
  have h1 := bytesN_split b I m
  have h2 := bytesN_sub b (show (I.take i).Sublist (I.take m) from by have := List.take_sublist i (I.take m); rwa [List.take_take, Nat.min_eq_left h] at this)
  omega
theorem put_len {I : List It} {x : It} (h : RiseTo I I.length) : (putL I x).length = I.length + (if hasN I x.1 then 0 else 1) := by
  rw [put_eq h]
  have h1 := find_rest (key := x.1) h
  have h2 := (posN_pos I x.1 h).1
  simp only [List.length_append, List.length_take, List.length_drop, List.length_cons, List.length_nil]
  split at h1 <;> rename_i hx <;> simp only [hx] <;> simp <;> omega
theorem put_bytes {b : Bool} {I : List It} {x : It} (h : RiseTo I I.length) : bytesN b (putL I x) ≤ bytesN b I + wt b x := by
  rw [put_eq h, bytesN_append, bytesN_append]
  have h1 := find_rest (key := x.1) h
  have h2 := take_drop_bytes b I (findN true I x.1).1 (posN I x.1) (by omega)
  simp only [bytesN, List.map_cons, List.map_nil, List.sum_cons, List.sum_nil] at *; omega
theorem put_has (I : List It) (x : It) : hasN (putL I x) x.1 = true := by
  unfold hasN putL; simp
theorem leaf_parts {I : List It} (h : RightP I []) : 0 < I.length ∧ I.all (okIt true) = true ∧ RiseTo I I.length ∧ bytesN true I ≤ 478 := by
  obtain ⟨h1, ⟨h2, h3⟩, _, h4⟩ := h
  unfold numB leafK at h1; unfold leafK at h2 h4; unfold sizeN at h4
  simp at h1 h2 h4
  exact ⟨by omega, by simpa using h2, h3, by omega⟩
theorem leaf_of {I : List It} (h1 : 0 < I.length) (h2 : I.all (okIt true) = true) (h3 : RiseTo I I.length) (h4 : bytesN true I ≤ 478) : RightP I [] := by
  refine ⟨?_, ⟨?_, h3⟩, rfl, ?_⟩
  · unfold numB leafK; simp; exact h1
  · exact h2
  · unfold sizeN leafK; simp; omega
/-- A leaf's two parts. -/
theorem leaf_cut {P : List It} {c : Nat} (h1 : P.all (okIt true) = true) (h2 : RiseTo P P.length) (h3 : bytesN true P ≤ 608) (h4 : 2 ≤ P.length) (hc : HalfAt true P c) :
    RightP (P.take c) [] ∧ RightP (P.drop c) [] ∧ (478 < bytesN true P → 98 ≤ bytesN true (P.take c) ∧ 98 ≤ bytesN true (P.drop c)) := by
  have hb := half_bounds hc (M := 130) (fun x hx => wt_le (b := true) ((List.all_eq_true.1 h1) x hx)) h4
  have hp := hc.pos h4
  have hl := hc.1
  refine ⟨leaf_of (by rw [List.length_take]; omega) (all_sub (List.take_sublist c P) h1) (rise_take h2 c) (by omega), leaf_of (by rw [List.length_drop]; omega) (all_sub (List.drop_sublist c P) h1) (rise_drop h2 c) (by omega), fun h => by omega⟩
theorem branch_parts {I : List It} {K : List Int} (h : RightP I K) (hk : 0 < K.length) : I.length + 1 = K.length ∧ I.all (okIt false) = true ∧ RiseTo I I.length ∧ K.all okKid = true ∧ bytesN false I ≤ 476 := by
  have hz : leafK K = false := by unfold leafK; rw [beq_eq_false_iff_ne]; omega
  obtain ⟨h1, ⟨h2, h3⟩, h5, h4⟩ := h
  unfold numB at h1; unfold sizeN at h4; rw [hz] at h1 h2 h4
  simp at h1 h4
  exact ⟨h1, h2, h3, h5, by omega⟩
theorem branch_of {I : List It} {K : List Int} (h1 : I.length + 1 = K.length) (h2 : I.all (okIt false) = true) (h3 : RiseTo I I.length) (h5 : K.all okKid = true) (h4 : bytesN false I ≤ 476) : RightP I K := by
  have hz : leafK K = false := by unfold leafK; rw [beq_eq_false_iff_ne]; omega
  refine ⟨?_, ⟨by rw [hz]; exact h2, h3⟩, h5, ?_⟩
  · unfold numB; rw [hz]; simp [h1]
  · rw [hz]; unfold sizeN; simp; omega
/-- A branch's two parts. -/
theorem branch_cut {P : List It} {K : List Int} {c : Nat} (h0 : P.length + 1 = K.length) (h1 : P.all (okIt false) = true) (h2 : RiseTo P P.length) (h5 : K.all okKid = true) (h3 : bytesN false P ≤ 543) (h4 : 2 ≤ P.length) (hc : HalfAt false P c) :
    RightP (P.take c) (K.take (c + 1)) ∧ RightP (P.drop (c + 1)) (K.drop (c + 1)) := by
  have hb := half_bounds hc (M := 67) (fun x hx => wt_le (b := false) ((List.all_eq_true.1 h1) x hx)) h4
  have hl := hc.1
  have hs : bytesN false (P.drop (c + 1)) ≤ bytesN false (P.drop c) := bytesN_sub false (List.drop_sublist_drop_left P (by omega))
  exact ⟨branch_of (by rw [List.length_take, List.length_take]; omega) (all_sub (List.take_sublist _ _) h1) (rise_take h2 c) (all_sub (List.take_sublist _ _) h5) (by omega),
    branch_of (by rw [List.length_drop, List.length_drop]; omega) (all_sub (List.drop_sublist _ _) h1) (rise_drop h2 _) (all_sub (List.drop_sublist _ _) h5) (by omega)⟩
/-- A kid put behind another. -/
def putK (K : List Int) (i : Nat) (z : Int) : List Int := K.take (i + 1) ++ [z] ++ K.drop (i + 1)
theorem putK_ok {K : List Int} {i : Nat} {z : Int} (h : K.all okKid = true) (hz : okKid z = true) : (putK K i z).all okKid = true := by
  unfold putK
  simp only [List.all_append, List.all_cons, List.all_nil, Bool.and_true]
  rw [all_sub (List.take_sublist _ _) h, all_sub (List.drop_sublist _ _) h, hz]; rfl
theorem putK_len {K : List Int} {i : Nat} {z : Int} (h : i + 1 ≤ K.length) : (putK K i z).length = K.length + 1 := by
  unfold putK; simp only [List.length_append, List.length_take, List.length_drop, List.length_cons, List.length_nil]; omega
theorem put_new {I : List It} {x : It} (h : RiseTo I I.length) (hx : hasN I x.1 = false) : putL I x = I.take (posN I x.1) ++ [x] ++ I.drop (posN I x.1) := by
  rw [put_eq h]
  have h1 := find_rest (key := x.1) h
  rw [hx] at h1; simp at h1
  rw [h1.1]
end Go.Proofs.Ytnjpijihjifkfaa

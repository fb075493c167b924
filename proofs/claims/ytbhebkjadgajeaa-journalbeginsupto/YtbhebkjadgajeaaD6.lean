/- Contract: slices.Backward over pending writes, as an iterator. -/
import Derived.Test.YtbhebkjadgajeaaD5
import Derived.RangeFuncNested
import Derived.RangeFuncBound
import Derived.RangeFuncCalls
import Derived.RangeFuncLeaves
import Derived.Shelf.Abstract
import Derived.Shelf.RegionOpen
import Derived.OwnWalkIn
import Derived.TacticsInMore
import Derived.LoopNIn
import Derived.LoopIn
namespace Go.Proofs.Ytbhebkjadgajeaa
open Go.RowKit Go.Shelf
attribute [local go_sem] Oper.semAt_some
/-- What has come when so many rounds are over. -/
def upto {α : Type} (f : Nat → α) (k : Nat) : List α := (List.range k).map f
theorem upto_succ {α : Type} (f : Nat → α) (k : Nat) : upto f (k + 1) = upto f k ++ [f k] := by simp [upto, List.range_succ]
theorem upto_length {α : Type} (f : Nat → α) (k : Nat) : (upto f k).length = k := by simp [upto]
/-- A write and its index. -/
abbrev Wr := Nat × Int × ByteArray
/-- The writes from the last one backwards. -/
def backF (P : List (Int × ByteArray)) (j : Nat) : Wr := (P.length - 1 - j, P.getD (P.length - 1 - j) (0, ByteArray.empty))
def wrV (x : Wr) : Array Value := #[.int .i64 (x.1 : Int), .agg #[.int .i64 x.2.1, .string x.2.2]]
set_option maxRecDepth 100000 in
set_option maxHeartbeats 2000000 in
theorem back1_in (F : Fence) (n : Nat) (h81 : F.fn 58) (hro : F.round = none) (hn : 1 ≤ n) (l Bs n₀ g cap : Nat) (P : List (Int × ByteArray)) (hP : P.length ≤ 1000000) (hb : g < n₀) (J Jx : List Wr → World → Prop)
    (hY : ∀ pre x W, J pre W → pre.length < P.length → YieldAt F (n - 1) Try.prog l (wrV x) W fun e W' =>
      (e = .returned (.bool true) ∧ J (pre ++ [x]) W' ∧ Below n₀ W W') ∨ (e = .returned (.bool false) ∧ Jx (pre ++ [x]) W'))
    (W : World) (hBn : Bs < n₀) (hBs : W.cell? ⟨Bs, 0, none⟩ = some (.slice (some ⟨g, 0, none⟩) P.length cap)) (hc : ∀ j (hj : j < P.length), W.cell? ⟨g, j * 2, none⟩ = some (.int .i64 P[j].1) ∧ W.cell? ⟨g, j * 2 + 1, none⟩ = some (.string P[j].2)) (h0 : J [] W) :
    CallsIn F n Try.prog 58 #[.func (.yield l) #[] #[], .pointer (some ⟨Bs, 0, none⟩)] W fun e W' => (∃ v, e = .returned v) ∧
      ((∃ ys, ys = upto (backF P) P.length ∧ J ys W') ∨ (∃ pre, (∃ k, k ≤ P.length ∧ pre = upto (backF P) k) ∧ Jx pre W')) := by
  refine callsIn_of_wp Try.func58 rfl h81 ?_ hro
  simp only [Try.ntmps58, List.size_toArray, List.length_cons, List.length_nil, Nat.reduceAdd, Nat.reduceSub, Array.replicate_succ, Array.replicate_zero, List.push_toArray, List.append_toArray, List.nil_append, List.cons_append]
  gi_wp2
  gi_loopw [3] (fun i wr => ∃ q : Nat, q ≤ P.length ∧ i = .int .i64 ((q : Int) - 1) ∧ J (upto (backF P) (P.length - q)) wr ∧ Below n₀ W wr)
    (fun i _ => (intOf i + 1).toNat)
  case atStart => exact ⟨P.length, Nat.le_refl _, rfl, by rw [Nat.sub_self]; exact h0, Below.refl _ _⟩
  case round =>
    obtain ⟨q, hq, rfl, hJs, hnx⟩ := hrel
    cases q with
    | zero =>
      gi_wp2
      go_end0
      exact ⟨⟨_, rfl⟩, .inl ⟨_, rfl, hJs⟩⟩
    | succ q =>
      have hbs : wr.cell? ⟨Bs, 0, none⟩ = some (.slice (some ⟨g, 0, none⟩) P.length cap) := (hnx.cell (p := ⟨Bs, 0, none⟩) hBn).trans hBs
      obtain ⟨k0, k1⟩ := hc q (by omega)
      have p0 := (hnx.cell (p := ⟨g, q * 2, none⟩) hb).trans k0
      have p1 := (hnx.cell (p := ⟨g, q * 2 + 1, none⟩) hb).trans k1
      obtain ⟨A, T, hAT⟩ : ∃ A T, P[q] = (A, T) := ⟨_, _, rfl⟩
      rw [hAT] at p0 p1
      obtain ⟨fn, tmps, assign, body, hy, hR⟩ := hY _ (q, A, T) wr hJs (by rw [upto_length]; omega)
      simp only [wrV] at hy
      rw [show ((q + 1 : Nat) : Int) - 1 = (q : Int) by omega]
      have hx : backF P (P.length - (q + 1)) = (q, A, T) := by
        unfold backF
        have e1 : P.length - 1 - (P.length - (q + 1)) = q := by omega
        rw [e1, List.getD_eq_getElem?_getD, List.getElem?_eq_getElem (by omega), Option.getD_some, hAT]
      have hsu : upto (backF P) (P.length - q) = upto (backF P) (P.length - (q + 1)) ++ [(q, A, T)] := by
        rw [show P.length - q = (P.length - (q + 1)) + 1 by omega, upto_succ, hx]
      have HSU := Lib.hid hsu
      clear hsu hx hAT k0 k1
      gi_wp2
      refine hR.mono ?_
      rintro e W3 (⟨rfl, hJ3, hk3⟩ | ⟨rfl, hJx3⟩)
      · gi_wp2
        go_roundw
        case rel => exact ⟨q, by omega, by go_num, by rw [HSU.out]; exact hJ3, hnx.trans hk3⟩
        case measure => simp [intOf]
      · gi_wp2
        refine bodyPost_ret (results_none rfl _ _ _) rfl ?_
        exact ⟨⟨_, rfl⟩, .inr ⟨_, ⟨P.length - q, by omega, HSU.out.symm⟩, hJx3⟩⟩
set_option maxRecDepth 100000 in
set_option maxHeartbeats 1000000 in
theorem back1_nil_in (F : Fence) (n : Nat) (h81 : F.fn 58) (hro : F.round = none) (l Bs : Nat) (J : List Wr → World → Prop) (W : World) (hBs : W.cell? ⟨Bs, 0, none⟩ = some (.slice none 0 0)) (h0 : J [] W) :
    CallsIn F n Try.prog 58 #[.func (.yield l) #[] #[], .pointer (some ⟨Bs, 0, none⟩)] W fun e W' => (∃ v, e = .returned v) ∧ J [] W' := by
  refine callsIn_of_wp Try.func58 rfl h81 ?_ hro
  simp only [Try.ntmps58, List.size_toArray, List.length_cons, List.length_nil, Nat.reduceAdd, Nat.reduceSub, Array.replicate_succ, Array.replicate_zero, List.push_toArray, List.append_toArray, List.nil_append, List.cons_append]
  gi_wp2
  gi_loopw [3] (fun i wr => i = .int .i64 (-1) ∧ J [] wr) (fun _ _ => 0)
  case atStart => exact ⟨rfl, h0⟩
  case round =>
    obtain ⟨rfl, hJs⟩ := hrel
    gi_wp2
    go_end0
    exact ⟨⟨_, rfl⟩, hJs⟩
set_option maxHeartbeats 1000000 in
theorem back_in (F : Fence) (n : Nat) (h61 : F.fn 52) (hro : F.round = none) (a : Option Addr) (len cap : Nat) (w : World) :
    CallsIn F n Try.prog 52 #[.slice a len cap] w fun e w' => e = .returned (.func (.func 58) #[] #[.pointer (some ⟨w.heap.size, 0, none⟩)]) ∧ w' = w.alloc (.cells #[.slice a len cap] 61) := by
  refine callsIn_of_wp Try.func52 rfl h61 ?_ hro
  simp only [Try.ntmps52, List.size_toArray, List.length_cons, List.length_nil, Nat.reduceAdd, Nat.reduceSub, Array.replicate_succ, Array.replicate_zero, List.push_toArray, List.append_toArray, List.nil_append, List.cons_append]
  gi_wp2
  go_ret
  exact ⟨rfl, rfl⟩
/-- The slice value holds these writes, in a block below n₀; or it is nil and there are none. -/
def Wrs (n₀ : Nat) (W : World) (sv : Value) (P : List (Int × ByteArray)) : Prop :=
  (sv = .slice none 0 0 ∧ P = []) ∨ ∃ g cap, sv = .slice (some ⟨g, 0, none⟩) P.length cap ∧ g < n₀ ∧ ∀ j (hj : j < P.length), W.cell? ⟨g, j * 2, none⟩ = some (.int .i64 P[j].1) ∧ W.cell? ⟨g, j * 2 + 1, none⟩ = some (.string P[j].2)
theorem Wrs.below {n₀ : Nat} {A B : World} (h : Below n₀ A B) {sv : Value} {P : List (Int × ByteArray)} : Wrs n₀ A sv P → Wrs n₀ B sv P
  | .inl e => .inl e
  | .inr ⟨g, cap, e, hb, hc⟩ => .inr ⟨g, cap, e, hb, fun j hj => ⟨(h.cell (p := ⟨g, j * 2, none⟩) hb).trans (hc j hj).1, (h.cell (p := ⟨g, j * 2 + 1, none⟩) hb).trans (hc j hj).2⟩⟩
theorem back_stops (F : Fence) (n : Nat) (h81 : F.fn 58) (hro : F.round = none) (hn : 1 ≤ n) (Bs n₀ : Nat) (sv : Value) (P : List (Int × ByteArray)) (hP : P.length ≤ 1000000) (w : World) (hBs : Bs < n₀) (hn₀ : n₀ ≤ w.heap.size)
    (hc : w.cell? ⟨Bs, 0, none⟩ = some sv) (hI : Wrs n₀ w sv P) :
    SeqStopsK F n Try.prog 58 #[.pointer (some ⟨Bs, 0, none⟩)] wrV (Below n₀) (fun ys => ys = upto (backF P) P.length) (fun pre => ∃ k, k ≤ P.length ∧ pre = upto (backF P) k) P.length w := fun l J Jx W hW _ _ hY h0 => by
  have hc' := (hW.cell (p := ⟨Bs, 0, none⟩) (Nat.lt_of_lt_of_le hBs hn₀)).trans hc
  rcases hI.below (hW.mono hn₀) with ⟨rfl, rfl⟩ | ⟨g, cap, rfl, hb, hcs⟩
  · exact (back1_nil_in F n h81 hro l Bs J W hc' h0).mono fun e W' ⟨he, hj⟩ => ⟨he, .inl ⟨_, rfl, hj⟩⟩
  · exact back1_in F n h81 hro hn l Bs n₀ g cap P hP hb J Jx hY W hBs hc' hcs h0
end Go.Proofs.Ytbhebkjadgajeaa

/- The reference's disk: step, Read. -/
import Derived.Test.YtplngodilalbhaaDA
import Derived.Deep.RegionHeld3
import Derived.BigQuiet
import Derived.Deep.QuietTactic
namespace Go.Proofs.Ytplngodilalbhaa
open Go.RowKit Go.Shelf
/-- What the reference's step answers, and what it leaves. -/
def opR (arm : Int) (dead : Bool) (ops : Int) : Bool × Int × Bool × Int :=
  if dead = true ∨ arm = 1 then (false, 0, true, ops) else (true, if 0 < arm then arm - 1 else arm, false, ops + 1)
/-- The reference's disk and a bool. -/
def rdB (sa : Option Addr) (sn sc : Nat) (wa : Option Addr) (wn wc : Nat) (arm : Int) (dead : Bool) (ops : Int) (b : Bool) (w : World) (e : Ending) (w' : World) : Prop :=
  e = .returned (.tuple #[.agg #[.slice sa sn sc, .slice wa wn wc, .int .i64 arm, .bool dead, .int .i64 ops], .bool b]) ∧ Below w.heap.size w w'
set_option maxHeartbeats 1000000 in
theorem rstep_any (sa : Option Addr) (sn sc : Nat) (wa : Option Addr) (wn wc : Nat) (arm : Int) (dead : Bool) (ops : Int) (w : World) (hf2 : arm ≤ 9223372036854775807) (ho : 0 ≤ ops) (ho2 : ops < 4611686018427387904) (b : Bool) (arm' : Int) (dead' : Bool) (ops' : Int) (hq : opR arm dead ops = (b, arm', dead', ops')) :
    Calls Try.prog 79 #[.agg #[.slice sa sn sc, .slice wa wn wc, .int .i64 arm, .bool dead, .int .i64 ops]] w (rdB sa sn sc wa wn wc arm' dead' ops' b w) := by
  unfold opR at hq
  cases dead with
  | true =>
    rw [if_pos (.inl rfl)] at hq
    simp only [Prod.mk.injEq] at hq
    obtain ⟨rfl, rfl, rfl, rfl⟩ := hq
    go_enter Try.func79, Try.ntmps79
    go_wp2
    refine bodyPost_ret (v := .tuple #[.agg #[.slice sa sn sc, .slice wa wn wc, .int .i64 0, .bool true, .int .i64 ops], .bool false]) (by simp [results, Try.results79, go_sem]) rfl ⟨rfl, ?_⟩
    repeat (first | exact ((Below.refl _ w).alloc (Nat.le_refl _) _).alloc (by simp) _ | refine Below.setCell ?_ (by simp) _)
  | false =>
    by_cases h1 : arm = 1
    · rw [if_pos (.inr h1)] at hq
      simp only [Prod.mk.injEq] at hq
      obtain ⟨rfl, rfl, rfl, rfl⟩ := hq
      subst h1
      go_enter Try.func79, Try.ntmps79
      go_wp2
      refine bodyPost_ret (v := .tuple #[.agg #[.slice sa sn sc, .slice wa wn wc, .int .i64 0, .bool true, .int .i64 ops], .bool false]) (by simp [results, Try.results79, go_sem]) rfl ⟨rfl, ?_⟩
      repeat (first | exact ((Below.refl _ w).alloc (Nat.le_refl _) _).alloc (by simp) _ | refine Below.setCell ?_ (by simp) _)
    · rw [if_neg (by simp [h1])] at hq
      simp only [Prod.mk.injEq] at hq
      obtain ⟨rfl, rfl, rfl, rfl⟩ := hq
      have hd : (arm == 1) = false := by rw [beq_eq_false_iff_ne]; exact h1
      clear h1
      by_cases h2 : 0 < arm
      · go_enter Try.func79, Try.ntmps79
        go_wp2
        refine bodyPost_ret (v := .tuple #[.agg #[.slice sa sn sc, .slice wa wn wc, .int .i64 (arm - 1), .bool false, .int .i64 (ops + 1)], .bool true]) (by simp [results, Try.results79, go_sem]) rfl ⟨rfl, ?_⟩
        repeat (first | exact ((Below.refl _ w).alloc (Nat.le_refl _) _).alloc (by simp) _ | refine Below.setCell ?_ (by simp) _)
      · go_enter Try.func79, Try.ntmps79
        go_wp2
        refine bodyPost_ret (v := .tuple #[.agg #[.slice sa sn sc, .slice wa wn wc, .int .i64 arm, .bool false, .int .i64 (ops + 1)], .bool true]) (by simp [results, Try.results79, go_sem]) rfl ⟨rfl, ?_⟩
        repeat (first | exact ((Below.refl _ w).alloc (Nat.le_refl _) _).alloc (by simp) _ | refine Below.setCell ?_ (by simp) _)
end Go.Proofs.Ytplngodilalbhaa

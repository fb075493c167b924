/- Contracts: a reader's failing, and Raw. -/
import Derived.Test.YtnjpijihjifkfaaO3
namespace Go.Proofs.Ytnjpijihjifkfaa
open Go.RowKit
theorem failing_any (p : Option Addr) (w : World) : Calls Try.prog 77 #[.pointer p] w fun e w' => e = .returned (.func (.func 88) #[] #[.pointer (some ⟨w.heap.size, 0, none⟩)]) ∧ w'.cell? ⟨w.heap.size, 0, none⟩ = some (.pointer p) ∧ Below w.heap.size w w' ∧ w.heap.size < w'.heap.size := by
  go_enter Try.func77, Try.ntmps77
  go_wp2
  go_ret
  exact ⟨rfl, by simp [go_sem], (Below.refl _ _).alloc (Nat.le_refl _) _, by simp⟩
theorem fail_nil (why : Int) (x : Nat) (w : World) (h : w.cell? ⟨x, 0, none⟩ = some (.pointer none)) :
    Calls Try.prog 88 #[.int .i64 why, .pointer (some ⟨x, 0, none⟩)] w fun e w' => e = .returned (.tuple #[]) ∧ w = w' := by
  go_enter Try.func88, Try.ntmps88
  go_wp2_with (go_at_call 89; refine (err_nil _).mono ?_; rintro e w' ⟨rfl, rfl⟩)
  go_end0
  exact ⟨rfl, rfl⟩
theorem fail_no (why : Int) (x b : Nat) (s : ByteArray) (e : Int) (w : World) (h : w.cell? ⟨x, 0, none⟩ = some (.pointer (some ⟨b, 0, none⟩))) (hr : Rd w b s e) (he : (e == 0) = false) :
    Calls Try.prog 88 #[.int .i64 why, .pointer (some ⟨x, 0, none⟩)] w fun e w' => e = .returned (.tuple #[]) ∧ w = w' := by
  go_enter Try.func88, Try.ntmps88
  go_wp2_with (go_at_call 89; refine (err_any b s e _ hr).mono ?_; rintro e w' ⟨rfl, rfl⟩)
  go_end0
  exact ⟨rfl, rfl⟩
theorem fail_yes (why : Int) (x b : Nat) (s : ByteArray) (w : World) (h : w.cell? ⟨x, 0, none⟩ = some (.pointer (some ⟨b, 0, none⟩))) (hr : Rd w b s 0) :
    Calls Try.prog 88 #[.int .i64 why, .pointer (some ⟨x, 0, none⟩)] w fun e w' => e = .returned (.tuple #[]) ∧ Rd w' b ByteArray.empty why ∧ Only b w w' := by
  have hh := (World.cell?_setCell_other w ⟨b, 1, none⟩ ⟨x, 0, none⟩ (.int .i64 why) (fun e => by simp at e)).trans h
  have c1 := hr.c1
  have f1 := hr.f1
  have c0 := (hr.set1 why).c0
  have f0 := (hr.set1 why).f0
  go_enter Try.func88, Try.ntmps88
  go_wp2_with (go_at_call 89; refine (err_any b s 0 _ hr).mono ?_; rintro e w' ⟨rfl, rfl⟩)
  go_end0
  exact ⟨rfl, (hr.set1 why).set0 _, ((Only.refl _ _).setCell _).setCell _⟩

theorem raw_ok (b n : Nat) (s : ByteArray) (e : Int) (w : World) (hr : Rd w b s e) (hs : s.size ≤ maxLen) (hn : n ≤ s.size) :
    Calls Try.prog 80 #[.pointer (some ⟨b, 0, none⟩), .int .i64 (n : Int)] w fun x w' => x = .returned (.string (s.extract 0 n)) ∧ Rd w' b (s.extract n s.size) e ∧ Only b w w' := by
  replace hs : s.size ≤ 9223372036854775807 := hs
  go_enter Try.func80, Try.ntmps80
  go_wp2_with (go_at_call 77; refine (failing_any _ _).mono ?_; rintro e w1 ⟨rfl, hx, hb, hsz⟩; have c0 := (hr.below hb).c0; have f0 := (hr.below hb).f0)
  go_ret
  exact ⟨rfl, (hr.below hb).set0 _, (Only.of_below hb).setCell _⟩
/-- Raw fails, and had not failed before. -/
theorem raw_bad (b : Nat) (n why : Int) (s : ByteArray) (w : World) (hr : Rd w b s 0) (hn : n < 0 ∧ why = 18 ∨ 0 ≤ n ∧ (s.size : Int) < n ∧ why = 20) :
    Calls Try.prog 80 #[.pointer (some ⟨b, 0, none⟩), .int .i64 n] w fun x w' => x = .returned (.string ByteArray.empty) ∧ Rd w' b ByteArray.empty why ∧ Only b w w' := by
  rcases hn with ⟨h1, rfl⟩ | ⟨h1, h2, rfl⟩
  · go_enter Try.func80, Try.ntmps80
    go_wp2_with (first | (go_at_call 77; refine (failing_any _ _).mono ?_; rintro e w1 ⟨rfl, hx, hb, hsz⟩; have c0 := (hr.below hb).c0) | (go_at_call 88; refine (fail_yes _ _ b s _ hx (hr.below hb)).mono ?_; rintro e w2 ⟨rfl, hr2, ho⟩))
    go_ret
    exact ⟨rfl, hr2, (Only.of_below hb).trans ho⟩
  · go_enter Try.func80, Try.ntmps80
    go_wp2_with (first | (go_at_call 77; refine (failing_any _ _).mono ?_; rintro e w1 ⟨rfl, hx, hb, hsz⟩; have c0 := (hr.below hb).c0) | (go_at_call 88; refine (fail_yes _ _ b s _ hx (hr.below hb)).mono ?_; rintro e w2 ⟨rfl, hr2, ho⟩))
    go_ret
    exact ⟨rfl, hr2, (Only.of_below hb).trans ho⟩
/-- Raw, when it has failed before. -/
theorem raw_failed (b : Nat) (n : Int) (s : ByteArray) (e : Int) (w : World) (hr : Rd w b s e) (hs : s.size = 0) (he : (e == 0) = false) :
    Calls Try.prog 80 #[.pointer (some ⟨b, 0, none⟩), .int .i64 n] w fun x w' => x = .returned (.string ByteArray.empty) ∧ Rd w' b s e ∧ Only b w w' := by
  have hs1 : (s.size : Int) = 0 := by omega
  have HS := Lib.hid hs
  by_cases h1 : n < 0
  · clear hs hs1
    go_enter Try.func80, Try.ntmps80
    go_wp2_with (first | (go_at_call 77; refine (failing_any _ _).mono ?_; rintro e w1 ⟨rfl, hx, hb, hsz⟩; have c0 := (hr.below hb).c0) | (go_at_call 88; refine (fail_no _ _ b s e _ hx (hr.below hb) he).mono ?_; rintro e w2 ⟨rfl, rfl⟩))
    go_ret
    exact ⟨rfl, hr.below hb, Only.of_below hb⟩
  · by_cases h2 : (s.size : Int) < n
    · clear hs hs1
      go_enter Try.func80, Try.ntmps80
      go_wp2_with (first | (go_at_call 77; refine (failing_any _ _).mono ?_; rintro e w1 ⟨rfl, hx, hb, hsz⟩; have c0 := (hr.below hb).c0) | (go_at_call 88; refine (fail_no _ _ b s e _ hx (hr.below hb) he).mono ?_; rintro e w2 ⟨rfl, rfl⟩))
      go_ret
      exact ⟨rfl, hr.below hb, Only.of_below hb⟩
    · obtain rfl : n = ((0 : Nat) : Int) := by omega
      have he2 : s = ByteArray.empty := by
        apply ByteArray.ext
        exact Array.eq_empty_of_size_eq_zero hs
      subst he2
      exact (raw_ok b 0 _ e w hr (by decide) (by omega)).mono fun x w' h => h
theorem raw_nil (n : Int) (w : World) : Calls Try.prog 80 #[.pointer none, .int .i64 n] w fun x w' => x = .returned (.string ByteArray.empty) ∧ w = w' := by
  go_enter Try.func80, Try.ntmps80
  go_wp2
  go_ret
  exact ⟨rfl, rfl⟩
end Go.Proofs.Ytnjpijihjifkfaa

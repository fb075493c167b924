/- Contracts: the reference's reader: Raw, End. -/
import Derived.Test.YtnjpijihjifkfaaO8
namespace Go.Proofs.Ytnjpijihjifkfaa
open Go.RowKit
/-- The reference's reader, by value. -/
def rdV (s : ByteArray) (e : Int) : Value := .agg #[.string s, .int .i64 e]
theorem bad_any (why : Int) (w : World) : Calls Try.prog 62 #[.int .i64 why] w fun x w' => x = .returned (.agg #[.string ByteArray.empty, .int .i64 why]) ∧ Below w.heap.size w w' := by
  go_enter Try.func62, Try.ntmps62
  go_wp2
  refine bodyPost_ret (v := .agg #[.string ByteArray.empty, .int .i64 why]) (by simp [results, Try.results62, go_sem]; rfl) rfl ⟨rfl, ?_⟩
  exact (Below.refl _ _).alloc (Nat.le_refl _) _
theorem rraw_failed (s : ByteArray) (e n : Int) (w : World) (he : (e != 0) = true) :
    Calls Try.prog 63 #[.agg #[.string s, .int .i64 e], .int .i64 n] w fun x w' => x = .returned (.tuple #[.agg #[.string s, .int .i64 e], .string ByteArray.empty]) ∧ Below w.heap.size w w' := by
  go_enter Try.func63, Try.ntmps63
  go_wp2
  refine bodyPost_ret (v := .tuple #[.agg #[.string s, .int .i64 e], .string ByteArray.empty]) (by simp [results, Try.results63, go_sem]; rfl) rfl ⟨rfl, ?_⟩
  exact ((Below.refl _ _).alloc (Nat.le_refl _) _).alloc (by simp) _
theorem load41 (w : World) (b : Nat) (t : ByteArray) (y : Int) (hR : Rd w b t y) : (loadVar 70 ⟨b, 0, none⟩).run Try.prog w = .ok (.agg #[.string t, .int .i64 y]) w := by
  have c0 := hR.c0
  have c1 := hR.c1
  simp [go_sem, c0, c1]
theorem results_rd {fn : Func} (h : fn.results = #[.cell 4 70, .tmp 5]) (tmps : Array Value) (w : World) (b : Nat) (t : ByteArray) (y : Int) (v : Value) (hR : Rd w b t y)
    (hp : tmps.getD 4 undef = .pointer (some ⟨b, 0, none⟩)) (hv : tmps.getD 5 undef = v) : (results fn tmps).run Try.prog w = .ok (.tuple #[.agg #[.string t, .int .i64 y], v]) w := by
  rw [results_cell_tmp h, hp, hv]
  show ((asAddr (.pointer (some ⟨b, 0, none⟩))).run Try.prog w).andThen _ = _
  simp [asAddr, load41 w b t y hR]
theorem Rd.two (w : World) (o : Obj) (s : ByteArray) (e : Int) (t : TypeId) : Rd ((w.alloc o).alloc (.cells #[.string s, .int .i64 e] t)) (w.heap.size + 1) s e := ⟨by simp [go_sem], by simp [go_sem], by simp [go_sem], by simp [go_sem]⟩
theorem Rd.one (w : World) (o : Obj) (s : ByteArray) (e : Int) (t : TypeId) : Rd ((w.alloc (.cells #[.string s, .int .i64 e] t)).alloc o) w.heap.size s e := ⟨by simp [go_sem], by simp [go_sem], by simp [go_sem], by simp [go_sem]⟩
theorem below_two (w : World) (o p : Obj) : Below w.heap.size w ((w.alloc o).alloc p) := ((Below.refl _ _).alloc (Nat.le_refl _) _).alloc (by simp) _
theorem below_two_to {w w1 : World} {o p : Obj} (h : Below ((w.alloc o).alloc p).heap.size ((w.alloc o).alloc p) w1) : Below w.heap.size w w1 := (below_two w o p).trans (h.mono (by simp; omega))
theorem rraw_bad (s : ByteArray) (n why : Int) (w : World) (hn : n < 0 ∧ why = 18 ∨ 0 ≤ n ∧ (s.size : Int) < n ∧ why = 20) :
    Calls Try.prog 63 #[.agg #[.string s, .int .i64 0], .int .i64 n] w fun x w' => x = .returned (.tuple #[.agg #[.string ByteArray.empty, .int .i64 why], .string ByteArray.empty]) ∧ Below w.heap.size w w' := by
  rcases hn with ⟨h1, rfl⟩ | ⟨h1, h2, rfl⟩
  · go_enter Try.func63, Try.ntmps63
    go_wp2_with fail
    refine (bad_any _ _).mono ?_
    rintro e w1 ⟨rfl, hb⟩
    have hR := (Rd.two w _ _ _ _).below hb
    have hR2 := (hR.set0 ByteArray.empty).set1 18
    obtain ⟨c0, c1, f0, f1⟩ := hR
    go_wp2
    refine bodyPost_ret (results_rd Try.results63 _ _ _ _ _ _ hR2 rfl rfl) rfl ⟨rfl, ?_⟩
    exact (((below_two_to hb).setCell (by simp) _).setCell (by simp) _)
  · go_enter Try.func63, Try.ntmps63
    go_wp2_with fail
    refine (bad_any _ _).mono ?_
    rintro e w1 ⟨rfl, hb⟩
    have hR := (Rd.two w _ _ _ _).below hb
    have hR2 := (hR.set0 ByteArray.empty).set1 20
    obtain ⟨c0, c1, f0, f1⟩ := hR
    go_wp2
    refine bodyPost_ret (results_rd Try.results63 _ _ _ _ _ _ hR2 rfl rfl) rfl ⟨rfl, ?_⟩
    exact (((below_two_to hb).setCell (by simp) _).setCell (by simp) _)
theorem rraw_ok (s : ByteArray) (n : Nat) (w : World) (hs : s.size ≤ maxLen) (hn : n ≤ s.size) :
    Calls Try.prog 63 #[.agg #[.string s, .int .i64 0], .int .i64 (n : Int)] w fun x w' => x = .returned (.tuple #[.agg #[.string (s.extract n s.size), .int .i64 0], .string (s.extract 0 n)]) ∧ Below w.heap.size w w' := by
  replace hs : s.size ≤ 9223372036854775807 := hs
  go_enter Try.func63, Try.ntmps63
  go_wp2_with fail
  go_region
  go_wp2
  refine bodyPost_ret (v := .tuple #[.agg #[.string (s.extract n s.size), .int .i64 0], .string (s.extract 0 n)]) (by simp [results, Try.results63, go_sem]; try rfl) rfl ⟨rfl, ?_⟩
  exact (((Below.refl _ _).alloc (Nat.le_refl _) _).alloc (by simp) _).drew
/-- How the reference's read ends. -/
def RReads (w : World) (t : ByteArray) (y : Int) (v : Value) (x : Ending) (w' : World) : Prop := x = .returned (.tuple #[.agg #[.string t, .int .i64 y], v]) ∧ Below w.heap.size w w'
theorem rraw_any (n : Int) (s : ByteArray) (e : Int) (w : World) (hs : s.size ≤ maxLen) :
    Calls Try.prog 63 #[.agg #[.string s, .int .i64 e], .int .i64 n] w (RReads w (rawS s e n).1 (rawS s e n).2.1 (.string (rawS s e n).2.2)) := by
  by_cases he : e = 0
  · subst he
    by_cases h1 : n < 0
    · rw [rawS_neg h1]; exact rraw_bad s n 18 w (.inl ⟨h1, rfl⟩)
    · by_cases h2 : (s.size : Int) < n
      · rw [rawS_short h2]; exact rraw_bad s n 20 w (.inr ⟨by omega, h2, rfl⟩)
      · obtain ⟨m, rfl⟩ := Int.eq_ofNat_of_zero_le (show 0 ≤ n by omega)
        rw [rawS_ok (by omega)]; exact rraw_ok s m w hs (by omega)
  · rw [rawS_failed he]
    exact rraw_failed s e n w (bne_iff_ne.2 he)
end Go.Proofs.Ytnjpijihjifkfaa

/- float64 arithmetic in a walk: a result, or some NaN; gauge.Kind and the reference's Kind. -/
import Derived.Test.YtmhfbgcfagfmbaaF3
import Derived.Below
namespace Go.Proofs.Ytmhfbgcfagfmbaa
open Go.RowKit

theorem Fl.sub_self_fin (f : Ieee.Format) {x : Nat} (h : Fl.rung f x < f.infRung) : f.sub x x = some 0 := by
  obtain ⟨m, i, e, _, _⟩ := Fl.read_fin f h
  unfold Ieee.Format.sub
  rw [e]
  simp only [Ieee.Datum.opposite, Ieee.Datum.sum, Int.min_self, Int.sub_self, Int.toNat_zero]
  have : Ieee.signed (Fl.sgn f x) m 0 + Ieee.signed (!(Fl.sgn f x)) m 0 = 0 := by
    cases Fl.sgn f x <;> simp [Ieee.signed] <;> omega
  rw [this]
  simp [Ieee.Format.write, Ieee.Format.nearest, Ieee.Format.word]
theorem Fl.sub_self_inf (f : Ieee.Format) (hf : 1 ≤ f.exponentBits) {x : Nat} (h : Fl.rung f x = f.infRung) : f.sub x x = none := by
  unfold Ieee.Format.sub
  rw [Fl.read_inf f hf h]
  simp only [Ieee.Datum.opposite, Ieee.Datum.sum]
  cases Fl.sgn f x <;> rfl

/-- What an operation gives: its result, or some NaN. -/
theorem run_arith (op : BinOp) (hop : op = .add ∨ op = .sub ∨ op = .mul ∨ op = .quo) (t : TypeId) (x y : Nat) (w : World) :
    ∃ b w', (binOp op t (.float .f64 x) (.float .f64 y)).run Try.prog w = .ok (.float .f64 b) w' ∧ Fit b ∧ ((floatBits op .f64 x y = some b ∧ w = w') ∨ (floatBits op .f64 x y = none ∧ NaN b ∧ w' = w.drew)) := by
  cases h : floatBits op .f64 x y with
  | some r =>
    refine ⟨r, w, run_float_arith w op t .f64 x y r h, ?_, .inl ⟨rfl, rfl⟩⟩
    have := floatBits_wf h
    simpa [Lit.wf, Fit] using this
  | none =>
    have key : ∀ b, b = (Question.nanBits .f64 x y).cut (w.tape w.drawn (.nanBits .f64 x y)) → Fit b ∧ NaN b := by
      intro b hb
      rw [hb]
      simp only [Question.cut]
      generalize w.tape w.drawn (.nanBits .f64 x y) = t
      have h1 : t % 2 < 2 := Nat.mod_lt _ (by omega)
      have h2 : t / 2 % (2 ^ 52 - 1) < 2 ^ 52 - 1 := Nat.mod_lt _ (by omega)
      generalize t % 2 = a at h1 ⊢
      generalize t / 2 % (2 ^ 52 - 1) = c at h2 ⊢
      unfold Fit NaN
      omega
    refine ⟨_, w.drew, ?_, (key _ rfl).1, .inr ⟨rfl, (key _ rfl).2, rfl⟩⟩
    rcases hop with rfl | rfl | rfl | rfl <;> simp only [floatBits] at h <;> simp [binOp, Op.floatArith, h, Question.forced]

theorem kind_any (x : Nat) (hx : Fit x) (w : World) : Calls Try.prog 39 #[.float .f64 x] w fun e w' => e = .returned (.int .i64 (kindF x)) ∧ w = w' := by
  unfold kindF
  split
  · exact kind_z x hx ‹_› w
  split
  · exact kind_p x hx (by omega) w
  split
  · exact kind_pi x hx ‹_› w
  split
  · exact kind_pn x hx (by omega) w
  split
  · exact kind_nz x hx ‹_› w
  split
  · exact kind_n x hx (by omega) w
  split
  · exact kind_ni x hx ‹_› w
  · exact kind_nn x hx (by omega) w
end Go.Proofs.Ytmhfbgcfagfmbaa

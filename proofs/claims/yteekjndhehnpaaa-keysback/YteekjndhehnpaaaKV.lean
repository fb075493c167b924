/- KeysBack: the whole walk. -/
import Derived.Test.YteekjndhehnpaaaKU
import Derived.Test.YteekjndhehnpaaaKV0
namespace Go.Proofs.Yteekjndhehnpaaa
open Go.RowKit
set_option maxRecDepth 100000
set_option linter.unusedVariables false
theorem keysBack_walk (a : K) (ha : KeyIn a) (b : K) (hb : KeyIn b) (s : ByteArray) (hs : s.size ≤ maxLen) (w : World) : Calls Try.prog 4 #[kV a, kV b, .string s] w fun e w' => e = .returned (.bool true) ∧ Below w.heap.size w w' := by
  have HO := Lib.hid (kopen_any s hs)
  have HA := Lib.hid (make_any a ha.b ha.n ha.u)
  have HB := Lib.hid (make_any b hb.b hb.n hb.u)
  have HMP : Hid (openE s.data.toList = 0 → ∀ w, Calls Try.prog 11 #[kV (openK s.data.toList)] w fun x w' => x = strErr s 0 ∧ Below w.heap.size w w') := Lib.hid (fun h w => by
    have hg := openE_zero h
    have hk : openK s.data.toList = parseK true s.data.toList := by unfold openK; rw [if_pos hg]
    unfold goodL at hg
    rw [Bool.and_eq_true, decide_eq_true_eq] at hg
    have := make_ok (parseK true s.data.toList) (parse_lt _ _) hg.1 w
    rw [hg.2, bs_of] at this
    rw [hk]
    exact this)
  have HOA : Hid (argE (okK a) = 0 → ∀ w, Calls Try.prog 14 #[.string (makeS a)] w fun x w' => x = keyErr a 0 ∧ Below w.heap.size w w') := Lib.hid (fun h w => by
    have hk := argE_zero h
    have hg := good_enc true hk ha.u
    have := kopen_any (makeS a) (by rw [makeS_ok hk, bs_size]; exact Nat.le_trans (enc_size hk) (by decide)) w
    rw [makeS_ok hk, bs_toList] at this
    unfold openK openE at this
    rw [if_pos hg, if_pos hg, parse_enc true a hk ha.u] at this
    rw [makeS_ok hk]
    exact this)
  have HA64 : Hid (argE (okK a) = 0 → (makeS a).size ≤ 64) := Lib.hid (fun h => by rw [makeS_ok (argE_zero h), bs_size]; exact enc_size (argE_zero h))
  have HQ : Hid (argE (okK a) = 0 → argE (okK b) = 0 → ((makeS a).toList == (makeS b).toList) = decide (a = b) ∧ ∀ w, (binOp .eql 24 (kV a) (kV b)).run Try.prog w = .ok (.bool (decide (a = b))) w) := Lib.hid (fun h1 h2 => by
    refine ⟨?_, fun w => eql24 a b w⟩
    have k1 := argE_zero h1
    have k2 := argE_zero h2
    rw [str_beq, makeS_ok k1, makeS_ok k2, decide_eq_decide]
    exact ⟨fun h => enc_inj k1 k2 ha.u hb.u (bs_inj h), fun h => by rw [h]⟩)
  obtain ⟨k1, t1, b1, n1, u1, p1⟩ := a
  obtain ⟨k2, t2, b2, n2, u2, p2⟩ := b
  generalize openK s.data.toList = P at HO HMP
  obtain ⟨k3, t3, b3, n3, u3, p3⟩ := P
  exact keysBack_main k1 t1 b1 n1 u1 p1 k2 t2 b2 n2 u2 p2 k3 t3 b3 n3 u3 p3 s _ _ _ _ _ _ HO HMP HA HB HOA HA64 HQ w
end Go.Proofs.Yteekjndhehnpaaa

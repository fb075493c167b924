/- Contracts: Cut, Join, Put and the reference's, side by side. -/
import Derived.Test.YtnjpijihjifkfaaU7
import Derived.Test.YtnjpijihjifkfaaU8
import Derived.Test.YtnjpijihjifkfaaU9
import Derived.Test.YtnjpijihjifkfaaU4
import Derived.Test.YtnjpijihjifkfaaTS
import Derived.Test.YtnjpijihjifkfaaTM
namespace Go.Proofs.Ytnjpijihjifkfaa
open Go.RowKit
set_option linter.unusedVariables false
/-- A node is answered; a node and a bool. -/
def NRet (w : World) (L : List It) (M : List Int) (e : Ending) (w' : World) : Prop :=
  ∃ a n c ka kn kc, e = .returned (.agg #[.slice a n c, .slice ka kn kc]) ∧ Its w' a n L ∧ Kds w' ka kn M ∧ Below w.heap.size w w'
def TRet (w : World) (L : List It) (M : List Int) (t : Bool) (e : Ending) (w' : World) : Prop :=
  ∃ a n c ka kn kc, e = .returned (.tuple #[.agg #[.slice a n c, .slice ka kn kc], .bool t]) ∧ Its w' a n L ∧ Kds w' ka kn M ∧ Below w.heap.size w w'
theorem cut_ex {n kn : Nat} {I : List It} {K : List Int} (hI : I.length = n) (hK : K.length = kn) (hn : n ≤ 200) (hkn : kn ≤ 200) (hS : Short I) :
    ∃ (L1 : List It) (K1 : List Int) (key : ByteArray) (L2 : List It) (K2 : List Int), (L1.length ≤ 200 ∧ K1.length ≤ 200 ∧ L2.length ≤ 200 ∧ K2.length ≤ 200) ∧
      (∀ (w : World) (a : Option Addr) (c : Nat) (ka : Option Addr) (kc : Nat), Its w a n I → Kds w ka kn K → n ≤ c → kn ≤ kc → Calls Try.prog 22 #[.agg #[.slice a n c, .slice ka kn kc]] w (CutRet w L1 K1 key L2 K2)) ∧
      (∀ (w : World) (a : Option Addr) (c : Nat) (ka : Option Addr) (kc : Nat), Its w a n I → Kds w ka kn K → n ≤ c → kn ≤ kc → Calls Try.prog 23 #[.agg #[.slice a n c, .slice ka kn kc]] w (RCutRet w L1 K1 key L2 K2)) := by
  by_cases h1 : kn = 0 ∧ 2 ≤ n
  · obtain ⟨h1, h2⟩ := h1
    subst h1
    refine ⟨_, _, _, _, _, ?_, fun w a c ka kc hi hk hnc hkc => cutLeaf_any hi (by omega) h2 hnc hS (halfN true I) rfl, fun w a c ka kc hi hk hnc hkc => rcutLeaf_any hi (by omega) h2 hnc hS (halfN true I) rfl⟩
    simp; omega
  · by_cases h2 : 3 ≤ kn ∧ n + 1 = kn
    · refine ⟨_, _, _, _, _, ?_, fun w a c ka kc hi hk hnc hkc => cutBranch_any hi hk (by omega) (by omega) (by omega) hnc hkc hS (halfN false I) rfl, fun w a c ka kc hi hk hnc hkc => rcutBranch_any hi hk (by omega) (by omega) (by omega) hnc hkc hS (halfN false I) rfl⟩
      simp; omega
    · exact ⟨_, _, _, _, _, ⟨by omega, by omega, by simp, by simp⟩, fun w a c ka kc hi hk hnc hkc => cutRest_any hi hk (by omega) (by omega) h1 h2, fun w a c ka kc hi hk hnc hkc => rcutRest_any hi hk (by omega) (by omega) h1 h2⟩
theorem short_cat {I J : List It} (h : Short I) (h2 : Short J) : Short (I ++ J) := fun x hx => by
  rcases List.mem_append.1 hx with h3 | h3
  · exact h x h3
  · exact h2 x h3
theorem if_len {P : Prop} [Decidable P] {α : Type} {L : List α} {m : Nat} (h : L.length ≤ m) : (if P then L else []).length ≤ m := by split <;> simp_all
theorem join_ex {n kn n2 kn2 : Nat} {I I2 : List It} {K K2 : List Int} (hI : I.length = n) (hK : K.length = kn) (hI2 : I2.length = n2) (hK2 : K2.length = kn2) (hn : n ≤ 200) (hkn : kn ≤ 200) (hn2 : n2 ≤ 200) (hkn2 : kn2 ≤ 200) (hS : Short I) (hS2 : Short I2) (key : ByteArray) (hkey : key.size ≤ 140737488355328) :
    ∃ (L : List It) (M : List Int) (t : Bool), (L.length ≤ 1000 ∧ M.length ≤ 1000) ∧
      (∀ (w : World) (a : Option Addr) (c : Nat) (ka : Option Addr) (kc : Nat) (a2 : Option Addr) (c2 : Nat) (ka2 : Option Addr) (kc2 : Nat), Its w a n I → Kds w ka kn K → Its w a2 n2 I2 → Kds w ka2 kn2 K2 →
        Calls Try.prog 24 #[.agg #[.slice a n c, .slice ka kn kc], .string key, .agg #[.slice a2 n2 c2, .slice ka2 kn2 kc2]] w (TRet w L M t)) ∧
      (∀ (w : World) (a : Option Addr) (c : Nat) (ka : Option Addr) (kc : Nat) (a2 : Option Addr) (c2 : Nat) (ka2 : Option Addr) (kc2 : Nat), Its w a n I → Kds w ka kn K → Its w a2 n2 I2 → Kds w ka2 kn2 K2 →
        Calls Try.prog 25 #[.agg #[.slice a n c, .slice ka kn kc], .string key, .agg #[.slice a2 n2 c2, .slice ka2 kn2 kc2]] w (TRet w L M t)) := by
  by_cases h1 : kn = 0
  · by_cases h2 : kn2 = 0
    · have hSL : Short [I, ([] : List It), I2].flatten := by simp; exact short_cat hS hS2
      refine ⟨if RightP [I, ([] : List It), I2].flatten [K, K2].flatten then [I, ([] : List It), I2].flatten else [], if RightP [I, ([] : List It), I2].flatten [K, K2].flatten then [K, K2].flatten else [], decide (RightP [I, ([] : List It), I2].flatten [K, K2].flatten), ⟨if_len (by simp; omega), if_len (by simp; omega)⟩, ?_, ?_⟩
      · intro w a c ka kc a2 c2 ka2 kc2 hi hk hi2 hk2
        refine (joinLeaf_any hi hi2 hk hk2 key (by simpa using h1) (by simpa using h2) (by omega) (by omega) (by omega) (by omega) _ rfl hSL _ rfl).mono ?_
        rintro e w' ⟨a, n, c, ka, kn, kc, rfl, -, -, -, -, h3, h4, h5⟩
        exact ⟨_, _, _, _, _, _, rfl, h3, h4, h5⟩
      · intro w a c ka kc a2 c2 ka2 kc2 hi hk hi2 hk2
        refine (rjoinLeaf_any hi hi2 hk hk2 key h1 h2 (by omega) (by omega) (by omega) (by omega) _ rfl hSL _ rfl).mono ?_
        rintro e w' ⟨a, n, c, ka, kn, kc, rfl, h3, h4, h5⟩
        exact ⟨_, _, _, _, _, _, rfl, h3, h4, h5⟩
    · refine ⟨[], [], false, ⟨by simp, by simp⟩, ?_, ?_⟩
      · intro w a c ka kc a2 c2 ka2 kc2 hi hk hi2 hk2
        refine (joinMixed_any key true false (by simpa using h1) (by simpa using h2) (by decide) w).mono ?_
        rintro e w' ⟨rfl, h5⟩
        exact ⟨_, _, _, _, _, _, rfl, ⟨rfl, .inl rfl⟩, ⟨rfl, .inl rfl⟩, h5⟩
      · intro w a c ka kc a2 c2 ka2 kc2 hi hk hi2 hk2
        refine (rjoinMixed_any key (.inl ⟨h1, by omega⟩) w).mono ?_
        rintro e w' ⟨rfl, h5⟩
        exact ⟨_, _, _, _, _, _, rfl, ⟨rfl, .inl rfl⟩, ⟨rfl, .inl rfl⟩, h5⟩
  · by_cases h2 : kn2 = 0
    · refine ⟨[], [], false, ⟨by simp, by simp⟩, ?_, ?_⟩
      · intro w a c ka kc a2 c2 ka2 kc2 hi hk hi2 hk2
        refine (joinMixed_any key false true (by simpa using h1) (by simpa using h2) (by decide) w).mono ?_
        rintro e w' ⟨rfl, h5⟩
        exact ⟨_, _, _, _, _, _, rfl, ⟨rfl, .inl rfl⟩, ⟨rfl, .inl rfl⟩, h5⟩
      · intro w a c ka kc a2 c2 ka2 kc2 hi hk hi2 hk2
        refine (rjoinMixed_any key (.inr ⟨by omega, h2⟩) w).mono ?_
        rintro e w' ⟨rfl, h5⟩
        exact ⟨_, _, _, _, _, _, rfl, ⟨rfl, .inl rfl⟩, ⟨rfl, .inl rfl⟩, h5⟩
    · have hSL : Short [I, [(key, ByteArray.empty)], I2].flatten := by
        have hk1 : Short [(key, ByteArray.empty)] := fun x hx => by simp at hx; subst hx; exact ⟨hkey, Nat.zero_le _⟩
        simp
        exact short_cat hS (short_cat hk1 hS2)
      refine ⟨if RightP [I, [(key, ByteArray.empty)], I2].flatten [K, K2].flatten then [I, [(key, ByteArray.empty)], I2].flatten else [], if RightP [I, [(key, ByteArray.empty)], I2].flatten [K, K2].flatten then [K, K2].flatten else [], decide (RightP [I, [(key, ByteArray.empty)], I2].flatten [K, K2].flatten), ⟨if_len (by simp; omega), if_len (by simp; omega)⟩, ?_, ?_⟩
      · intro w a c ka kc a2 c2 ka2 kc2 hi hk hi2 hk2
        refine (joinBranch_any hi hi2 hk hk2 key (by simpa using h1) (by simpa using h2) (by omega) (by omega) (by omega) (by omega) _ rfl hSL _ rfl).mono ?_
        rintro e w' ⟨a, n, c, ka, kn, kc, rfl, -, -, -, -, h3, h4, h5⟩
        exact ⟨_, _, _, _, _, _, rfl, h3, h4, h5⟩
      · intro w a c ka kc a2 c2 ka2 kc2 hi hk hi2 hk2
        refine (rjoinBranch_any hi hi2 hk hk2 key (by omega) (by omega) (by omega) (by omega) (by omega) (by omega) _ rfl hSL _ rfl).mono ?_
        rintro e w' ⟨a, n, c, ka, kn, kc, rfl, h3, h4, h5⟩
        exact ⟨_, _, _, _, _, _, rfl, h3, h4, h5⟩
theorem put_ex {n kn : Nat} {I : List It} {K : List Int} (hI : I.length = n) (hK : K.length = kn) (hn : n ≤ 200) (hkn : kn ≤ 200) (hR : RiseTo I I.length) (p q : ByteArray) :
    ∃ (L : List It) (M : List Int), (L.length ≤ 1000 ∧ M.length ≤ 1000) ∧
      (∀ (w : World) (a : Option Addr) (c : Nat) (ka : Option Addr) (kc : Nat), Its w a n I → Kds w ka kn K → n ≤ c → Calls Try.prog 26 #[.agg #[.slice a n c, .slice ka kn kc], .agg #[.string p, .string q]] w (NRet w L M)) ∧
      (∀ (w : World) (a : Option Addr) (c : Nat) (ka : Option Addr) (kc : Nat), Its w a n I → Kds w ka kn K → n ≤ c → Calls Try.prog 27 #[.agg #[.slice a n c, .slice ka kn kc], .agg #[.string p, .string q]] w (NRet w L M)) := by
  by_cases h1 : kn = 0
  · subst h1
    have hl := put_len (x := (p, q)) hR
    refine ⟨putL I (p, q), [], ⟨by rw [hl]; split <;> omega, by simp⟩, ?_, ?_⟩
    · intro w a c ka kc hi hk hnc
      refine (putLeaf_any (ka := ka) (kc := kc) p q hi (by omega) hnc hR).mono ?_
      rintro e w' ⟨a, n, c, ka, kn, kc, rfl, -, -, -, -, h3, h4, h5⟩
      exact ⟨_, _, _, _, _, _, rfl, h3, h4, h5⟩
    · intro w a c ka kc hi hk hnc
      refine (rput_any (c := c) (ka := ka) (kc := kc) p q hi (by omega)).mono ?_
      rintro e w' ⟨a', n', c', rfl, -, h3, h5⟩
      exact ⟨_, _, _, _, _, _, rfl, h3, ⟨rfl, .inl rfl⟩, h5⟩
  · refine ⟨I, K, ⟨by omega, by omega⟩, ?_, ?_⟩
    · intro w a c ka kc hi hk hnc
      refine (putBranch_any (c := c) (kc := kc) p q hi hk (by omega) (by omega) (by omega)).mono ?_
      rintro e w' ⟨a, n, c, ka, kn, kc, rfl, -, -, -, -, h3, h4, h5⟩
      exact ⟨_, _, _, _, _, _, rfl, h3, h4, h5⟩
    · intro w a c ka kc hi hk hnc
      refine (rputBranch_any (a := a) (n := n) (c := c) (ka := ka) (kn := kn) (kc := kc) p q (by omega) w).mono ?_
      rintro e w' ⟨rfl, h5⟩
      exact ⟨_, _, _, _, _, _, rfl, hi.below h5, hk.below h5, h5⟩
end Go.Proofs.Ytnjpijihjifkfaa

/- KeysTell: the whole walk. -/
import Derived.Test.YteekjndhehnpaaaRT0
import Derived.Test.YteekjndhehnpaaaRT1
namespace Go.Proofs.Yteekjndhehnpaaa
open Go.RowKit
set_option maxRecDepth 100000
set_option linter.unusedVariables false
set_option maxHeartbeats 4000000
theorem keysTell_far (k t : Int) (b n : ByteArray) (u : Nat) (p : Int) (s : ByteArray) (hb9 : b.size ≤ 9223372036854775807) (hn9 : n.size ≤ 9223372036854775807) (hs9 : s.size ≤ 9223372036854775807) (h : 1000 < b.size ∨ 1000 < n.size ∨ 1000 < s.size) (w : World) :
    Calls Try.prog 3 #[.agg #[.int .i64 k, .int .i64 t, .string b, .string n, .int .u64 (u : Int), .int .i64 p], .string s] w fun e w' => e = .returned (.bool true) ∧ Below w.heap.size w w' := by
  by_cases h1 : 1000 < b.size
  · clear h
    go_enter Try.func3, Try.ntmps3
    go_wp2_with fail
    refine (lives_any _).mono ?_
    rintro e wn ⟨rfl, hb⟩
    go_wp2_with fail
    go_ret
    exact ⟨rfl, below_alloc_to hb⟩
  · by_cases h2 : 1000 < n.size
    · clear h
      go_enter Try.func3, Try.ntmps3
      go_wp2_with fail
      refine (lives_any _).mono ?_
      rintro e wn ⟨rfl, hb⟩
      go_wp2_with fail
      go_ret
      exact ⟨rfl, below_alloc_to hb⟩
    · have h3 : 1000 < s.size := by omega
      clear h
      go_enter Try.func3, Try.ntmps3
      go_wp2_with fail
      refine (lives_any _).mono ?_
      rintro e wn ⟨rfl, hb⟩
      go_wp2_with fail
      go_ret
      exact ⟨rfl, below_alloc_to hb⟩
theorem keysTell_walk (k : K) (hk : KeyIn k) (s : ByteArray) (hs : s.size ≤ maxLen) (w : World) : Calls Try.prog 3 #[kV k, .string s] w fun e w' => e = .returned (.bool true) ∧ Below w.heap.size w w' := by
  by_cases h : 1000 < k.buc.size ∨ 1000 < k.nam.size ∨ 1000 < s.size
  · obtain ⟨kind, t, b, n, u, p⟩ := k
    exact keysTell_far kind t b n u p s hk.b hk.n hs h w
  · have h1 : k.buc.size ≤ 1000 := by omega
    have h2 : k.nam.size ≤ 1000 := by omega
    have h3 : s.size ≤ 1000 := by omega
    have HA := Lib.hid (make_any k hk.b hk.n hk.u)
    have HRA := Lib.hid (rmake_any k h1 h2 hk.u)
    have HO := Lib.hid (kopen_any s hs)
    have HRO := Lib.hid (ropen_any s h3)
    have HC := Lib.hid (check_any k hk.b hk.n)
    have HR := Lib.hid (rright_any k h1 h2)
    have H18 := Lib.hid (buckets_any k.ten)
    have H19 := Lib.hid (rbuckets_any k.ten)
    have H20 := Lib.hid (all_any k.kind k.ten k.buc hk.b)
    have H21 := Lib.hid (rall_any k.kind k.ten k.buc h1)
    have H22 := Lib.hid (chain_any k.ten k.buc k.nam hk.b hk.n)
    have H23 := Lib.hid (rchain_any k.ten k.buc k.nam h1 h2)
    have H24 := Lib.hid (fun w => pieces_any k.ten k.buc k.num hk.b hk.u w)
    have H25 := Lib.hid (fun w => rpieces_any k.ten k.buc k.num h1 hk.u w)
    generalize openK s.data.toList = P at HO HRO
    generalize okK k = ok at HA HRA HC HR
    obtain ⟨kind, t, b, n, u, p⟩ := k
    obtain ⟨k3, t3, b3, n3, u3, p3⟩ := P
    cases ok with
    | true => exact T0.keysTell0 kind t b n u p s h1 h2 h3 _ _ k3 t3 b3 n3 u3 p3 _ _ _ _ _ HA HRA HO HRO HC HR H18 H19 H20 H21 H22 H23 H24 H25 w
    | false => exact T1.keysTell1 kind t b n u p s h1 h2 h3 _ _ k3 t3 b3 n3 u3 p3 _ _ _ _ _ HA HRA HO HRO HC HR H18 H19 H20 H21 H22 H23 H24 H25 w
end Go.Proofs.Yteekjndhehnpaaa

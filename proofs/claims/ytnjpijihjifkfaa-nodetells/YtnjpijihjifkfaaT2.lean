/- Contracts: a node's size; whether it may be. -/
import Derived.Test.YtnjpijihjifkfaaT1
namespace Go.Proofs.Ytnjpijihjifkfaa
open Go.RowKit
set_option linter.unusedVariables false
theorem kv_at (I : List It) (k : Nat) (h : k < I.length) : I[k] = (kq I k, vq I k) := by unfold kq vq; rw [getD_at _ _ _ h]
theorem short_at {I : List It} (h : Short I) (k : Nat) (hk : k < I.length) : (kq I k).size ≤ 140737488355328 ∧ (vq I k).size ≤ 140737488355328 := by
  have := h I[k] (List.getElem_mem hk)
  rw [kv_at I k hk] at this
  exact this
theorem bytes_small {b : Bool} {I : List It} (h : Short I) (hn : I.length ≤ 4096) (k : Nat) : bytesN b (I.take k) ≤ 1152921504606887936 := by
  have key : ∀ J : List It, Short J → bytesN b J ≤ J.length * 281474976710659 := by
    intro J
    induction J with
    | nil => intro _; simp [bytesN]
    | cons x J ih =>
      intro hJ
      have h1 := ih (fun y hy => hJ y (List.mem_cons_of_mem _ hy))
      have h2 := hJ x (List.mem_cons_self ..)
      simp only [bytesN, List.map_cons, List.sum_cons, List.length_cons] at *
      have h3 : wt b x ≤ 281474976710659 := by unfold wt; split <;> omega
      rw [Nat.succ_mul]; omega
  have h1 := key (I.take k) (fun x hx => h x (List.mem_of_mem_take hx))
  have h2 : (I.take k).length ≤ 4096 := by rw [List.length_take]; omega
  have h3 := Nat.mul_le_mul_right 281474976710659 h2
  omega
section
variable {w : World} {a : Option Addr} {n c : Nat} {ka : Option Addr} {kn kc : Nat} {I : List It} {b : Bool}
set_option maxRecDepth 100000 in
set_option maxHeartbeats 1000000 in
theorem itemBytes_any (hI : Its w a n I) (hn : n ≤ 4096) (hS : Short I) (h : (kn == 0) = b) (u : Nat) (hu : bytesN b I = u) :
    Calls Try.prog 41 #[.agg #[.slice a n c, .slice ka kn kc]] w fun e w' => e = .returned (.int .i64 (u : Int)) ∧ Below w.heap.size w w' := by
  have HI := Lib.hid hI
  have HS := Lib.hid hS
  have HU := Lib.hid hu
  have HL := Lib.hid hI.1
  have HB := Lib.hid (fun (k v : ByteArray) (x : Nat) hx hk hv w => bytesOf_any k v a n c ka kn kc b h x hx hk hv w)
  clear hI hS hu h
  have N0 := Nd.new w a n c ka kn kc 31
  have B0 := new_below w (.cells #[.slice a n c, .slice ka kn kc] 31)
  have HN := Lib.hid N0
  have HB0 := Lib.hid B0
  clear N0 B0
  go_enter Try.func41, Try.ntmps41
  go_wp2_with fail
  go_loopw [3, 9] (fun s i wx => ∃ (k v : Nat), k ≤ n ∧ Hid (bytesN b (I.take k) = v) ∧ v ≤ 1152921504606887936 ∧ Nd wx w.heap.size a n c ka kn kc ∧ Below w.heap.size w wx ∧ s = .int .i64 (v : Int) ∧ i = .int .i64 (k : Int)) (fun _ i _ => n - (intOf i).toNat)
  case atStart => exact ⟨0, 0, by omega, Lib.hid (by simp [bytesN]), by omega, HN.out, HB0.out, rfl, rfl⟩
  case round =>
    obtain ⟨k, v, hk, HV, hv, hN, hB, rfl, rfl⟩ := hrel
    by_cases hlt : k < n
    · obtain ⟨g, off, rfl, hg, e0, e1⟩ := (HI.out.below hB).at hlt
      have hkl : k < I.length := by rw [HL.out]; exact hlt
      have hs := short_at HS.out k hkl
      have hst := bytesN_take_succ b I k hkl
      rw [HV.out, kv_at I k hkl] at hst
      have hbd := bytes_small (b := b) HS.out (by rw [HL.out]; exact hn) (k + 1)
      obtain ⟨p, hp⟩ : ∃ p, kq I k = p := ⟨_, rfl⟩
      obtain ⟨q, hq⟩ : ∃ q, vq I k = q := ⟨_, rfl⟩
      rw [hp] at e0 hs hst
      rw [hq] at e1 hs hst
      obtain ⟨x, hx⟩ : ∃ x, wt b (p, q) = x := ⟨_, rfl⟩
      rw [hx] at hst
      rw [hst] at hbd
      have HST := Lib.hid hst
      have HX := Lib.hid hx
      have hs1 := hs.1
      have hs2 := hs.2
      have c0 := hN.c0
      have c1 := hN.c1
      have hlt0 := hN.lt
      clear hs hst hp hq hx
      go_wp2_with fail
      refine (HB.out p q x HX.out hs1 hs2 _).mono ?_
      rintro e w2 ⟨rfl, hb⟩
      have hb2 := below_new hb
      have hN2 := hN.below hb2
      have hB2 := below_to hB hb2
      clear hb hb2 e0 e1 c0 c1 hN hB
      go_wp2_with fail
      go_roundw
      case rel => exact ⟨k + 1, v + x, by omega, HST, by omega, hN2, hB2, by go_num, by go_num⟩
      case measure => simp [intOf]; omega
    · obtain rfl : k = n := by omega
      have hvu : v = (v : Nat) := rfl
      have HE := Lib.hid (show v = u by rw [← HU.out, ← HV.out, List.take_of_length_le (by rw [HL.out]; exact Nat.le_refl _)])
      go_wp2_with fail
      go_ret
      exact ⟨ret_int (by rw [HE.out]), hB⟩
theorem size_any (hI : Its w a n I) (hn : n ≤ 4096) (hS : Short I) (h : (kn == 0) = b) (u : Nat) (hu : sizeN b I = u) :
    Calls Try.prog 16 #[.agg #[.slice a n c, .slice ka kn kc]] w fun e w' => e = .returned (.int .i64 (u : Int)) ∧ Below w.heap.size w w' := by
  have HL := Lib.hid (fun w => isLeaf_any a n c ka kn kc b h w)
  have hbd := bytes_small (b := b) hS (by rw [hI.1]; exact hn) I.length
  rw [List.take_length] at hbd
  obtain ⟨x, hx⟩ : ∃ x, bytesN b I = x := ⟨_, rfl⟩
  rw [hx] at hbd
  have HB := Lib.hid (fun (w1 : World) (B : Below w.heap.size w w1) => itemBytes_any (c := c) (ka := ka) (kn := kn) (kc := kc) (hI.below B) hn hS h x hx)
  have HU := Lib.hid (show (if b then 2 else 4) + x = u by rw [← hu, ← hx]; rfl)
  have N0 := Nd.new w a n c ka kn kc 31
  have B0 := new_below w (.cells #[.slice a n c, .slice ka kn kc] 31)
  have HN := Lib.hid N0
  have HB0 := Lib.hid B0
  clear N0 B0 h hu hx hI hS
  go_enter Try.func16, Try.ntmps16
  go_wp2_with fail
  refine (HL.out _).mono ?_
  rintro e w1 ⟨rfl, hb⟩
  have hN := HN.out.below hb
  have hB := below_to HB0.out hb
  have c0 := hN.c0
  have c1 := hN.c1
  clear hb
  cases b with
  | true =>
    have hu := HU.out
    simp only [if_true] at hu
    have HU2 := Lib.hid hu
    clear hu
    go_wp2_with fail
    refine (HB.out _ hB).mono ?_
    rintro e w2 ⟨rfl, hb⟩
    have hB2 := below_to hB hb
    clear hb
    go_wp2_with fail
    go_ret
    exact ⟨ret_int (by rw [← HU2.out]; simp), hB2⟩
  | false =>
    have hu := HU.out
    simp only [Bool.false_eq_true, if_false] at hu
    have HU2 := Lib.hid hu
    clear hu
    go_wp2_with fail
    refine (HB.out _ hB).mono ?_
    rintro e w2 ⟨rfl, hb⟩
    have hB2 := below_to hB hb
    clear hb
    go_wp2_with fail
    go_ret
    exact ⟨ret_int (by rw [← HU2.out]; simp), hB2⟩
end
end Go.Proofs.Ytnjpijihjifkfaa

/- Contracts of crc.More, Sum and of the reference. -/
import Derived.Test.YtgbnmokajaehhaaDoorXC3
namespace Go.Proofs.YtgbnmokajaehhaaDoor.Oc
open Go.RowKit
theorem halves_c (C : Array Value) (hC : Tab C 256) (w : World) :
    Calls Tryd.prog 78 #[] w fun e w' => e = .returned (.agg C) ∧ Below w.heap.size w w' :=
  (halves_any w).mono fun e w' ⟨he, hb⟩ => ⟨by rw [he, show C = tabC 256 from hC], hb⟩
theorem wpList_store_new {ops : Array Oper} {rest : List Oper} {op : Oper} {a : Act} {w : World} {Q : Exit → Act → World → Prop} (hgd : op.guard = none) (x y : Operand) (ho : op.op = .store 91 x y)
    (c C : Array Value) (hc : c.size = 256) (hC : Tab C 256) (hx : a.eval x = .pointer (some ⟨w.heap.size, 0, none⟩)) (hy : a.eval y = .agg C)
    (h : wpList Tryd.prog ops Q rest (a.put op.dst undef) (w.alloc (.cells C 91))) : wpList Tryd.prog ops Q (op :: rest) a (w.alloc (.cells c 91)) :=
  wpList_plain hgd fun K hK => by
    have hs : C.size = 256 := by rw [show C = tabC 256 from hC, tabC_size]
    unfold Oper.wp execOp
    simp only [ho, hx, hy, Sem.run_bind, run_storeAt_new (P := Tryd.prog) w 91 c C (by rw [info58, hs]) (by rw [hc, hs]) (by rw [show C = tabC 256 from hC]; exact tab_cells 256), Result.andThen_ok]
    exact hK _ _ h
theorem z58_size : Tryd.zeroCells91.size = 256 := by kernel_rfl
theorem tab_cell {C : Array Value} (hC : Tab C 256) (w : World) (q : Nat) (hq : q < 256) : (w.alloc (.cells C 91)).cell? ⟨w.heap.size, q, none⟩ = some (.int .u32 (stps 8 q : Nat)) := by
  have h : (w.alloc (.cells C 91)).cell? ⟨w.heap.size, q, none⟩ = C[q]? := by simp [go_sem]
  rw [h, show C = tabC 256 from hC, tabC_get _ _ hq, if_pos hq]
theorem xor8 (a b : Nat) (ha : a < 256) (hb : b < 256) : bits .xor .u8 (a : Int) (b : Int) = ((a ^^^ b : Nat) : Int) := u8_xor_nat a b ha hb
theorem take_snoc8 (s : ByteArray) (k : Nat) (h : k < s.size) : s.data.toList.take (k + 1) = s.data.toList.take k ++ [s[k]] := by
  rw [List.take_succ_eq_append_getElem (by simpa using h)]; rfl
set_option maxRecDepth 100000 in
set_option maxHeartbeats 1000000 in
theorem more_any (x : Nat) (s : ByteArray) (w : World) (hx : x < 4294967296) (hs : s.size ≤ maxLen) :
    Calls Tryd.prog 56 #[.int .u32 (x : Int), .string s] w fun e w' => e = .returned (.int .u32 (moreN x s.data.toList : Nat)) ∧ Below w.heap.size w w' := by
  replace hs : s.size ≤ 9223372036854775807 := hs
  obtain ⟨C, hC⟩ : ∃ C, Tab C 256 := ⟨_, rfl⟩
  have h1 := Lib.hid (xor32 x ffff hx ffff_lt)
  go_enter Tryd.func56, Tryd.ntmps56
  go_wp2_with (first | (go_at_call 78; refine (halves_c C hC _).mono ?_; rintro e w1 ⟨rfl, hb⟩) | (refine wpList_store_new rfl (.tmp 5) (.tmp 8) rfl _ C z58_size hC rfl rfl ?_))
  go_loop [6, 13] (fun t i => ∃ k r : Nat, k ≤ s.size ∧ Hid (r = regs (x ^^^ ffff) (s.data.toList.take k)) ∧ i = .int .i64 k ∧ t = .int .u32 (r : Int)) (fun _ i => s.size - (intOf i).toNat)
  case atStart => exact ⟨0, x ^^^ ffff, by omega, Lib.hid rfl, rfl, by rw [← h1.out]; rfl⟩
  case round =>
    obtain ⟨k, r, hk, HR, rfl, rfl⟩ := hrel
    have hr : r < 4294967296 := by rw [HR.out]; exact regs_lt _ (Nat.xor_lt_two_pow (n := 32) hx ffff_lt)
    by_cases hlt : k < s.size
    · have hts := Lib.hid (take_snoc8 s k hlt)
      have hcl : s[k].toNat < 256 := s[k].toNat_lt
      obtain ⟨q, hq1, hq2⟩ : ∃ q : Nat, bits .xor .u8 ((r : Int) % 256) (s[k].toNat : Int) = (q : Int) ∧ Hid (q = r % 256 ^^^ s[k].toNat) := ⟨r % 256 ^^^ s[k].toNat, by rw [← xor8 _ _ (by omega) hcl]; simp, Lib.hid rfl⟩
      have hq : q < 256 := by rw [hq2.out]; exact Nat.xor_lt_two_pow (n := 8) (by omega) hcl
      have hcell := tab_cell hC w1 q hq
      have hx2 := Lib.hid (xor32 (r / 256) (stps 8 q) (by omega) (stps_lt (by omega)))
      go_wp2
      go_round
      case rel => exact ⟨k + 1, r / 256 ^^^ stps 8 q, by omega, Lib.hid (by rw [hts.out, regs_snoc, ← HR.out, hq2.out]; exact (byte_table' r _ hcl).symm), by go_num, by rw [← hx2.out]; rfl⟩
      case measure => simp [intOf]; omega
    · have h2 := Lib.hid (xor32 r ffff hr ffff_lt)
      have ht := Lib.hid (List.take_of_length_le (l := s.data.toList) (i := k) (by simp; omega))
      go_wp2
      go_ret
      exact ⟨ret_int (by show _ = ((regs _ _ ^^^ ffff : Nat) : Int); rw [← ht.out, ← HR.out, ← h2.out]; rfl), hb.alloc (hb.size) _⟩

theorem sum_any (s : ByteArray) (w : World) (hs : s.size ≤ maxLen) :
    Calls Tryd.prog 29 #[.string s] w fun e w' => e = .returned (.int .u32 (sumN s.data.toList : Nat)) ∧ Below w.heap.size w w' := by
  go_enter Tryd.func29, Tryd.ntmps29
  go_wp2_with (go_at_call 56; refine (more_any 0 s _ (by omega) hs).mono ?_; rintro e w1 ⟨rfl, hb⟩)
  go_ret
  exact ⟨rfl, hb⟩

end Go.Proofs.YtgbnmokajaehhaaDoor.Oc

/- Contracts: Home and OfHome, the program's and the reference's. -/
import Derived.Test.YtplngodilalbhaaA8
namespace Go.Proofs.Ytplngodilalbhaa
open Go.RowKit
abbrev z480 : ByteArray := bs (List.replicate 480 0)
abbrev z512 : ByteArray := bs (List.replicate 512 0)
theorem allZ_zero {p : ByteArray} (hs : p.size = 480) (h : allZ p.data.toList = true) : p = z480 := by
  apply ByteArray.ext; apply Array.toList_inj.1
  show _ = (bs _).data.toList
  rw [bs_toList, List.eq_replicate_iff]
  refine ⟨by rw [← blen, hs], fun b hb => ?_⟩
  unfold allZ at h
  rw [List.all_eq_true] at h
  exact beq_iff_eq.1 (h b hb)
theorem allZ_not {p : ByteArray} (h : allZ p.data.toList = false) : p ≠ z480 := by
  rintro rfl
  rw [bs_toList] at h
  unfold allZ at h
  rw [List.all_eq_false] at h
  obtain ⟨x, hx, hn⟩ := h
  rw [List.eq_of_mem_replicate hx] at hn
  simp at hn
theorem home_blank (a : Int) (p z : ByteArray) (w : World) (h : okS 4 a 0 p.size) (hz : allZ p.data.toList = true) (hb : z512 = z) :
    Calls Try.prog 18 #[.int .i64 a, .string p] w fun x w' => x = strErr z 0 ∧ Below w.heap.size w w' := by
  have hs : p.size ≤ maxLen := by rw [h.2.2.2.2.2.2]; decide
  have n1 := Lib.hid (fun w => check_ok 4 0 0 a 0 p w h)
  have n2 := Lib.hid (fun w => noughts_any p w hs)
  rw [hz] at n2
  have n3 := Lib.hid (fun w => blank_any z hb w)
  clear h hz hb hs
  go_enter Try.func18, Try.ntmps18
  go_wp2_with fail
  refine (home_any a p _).mono ?_
  rintro x w1 ⟨rfl, B⟩
  go_wp2_with fail
  refine (n1.out _).mono ?_
  rintro x w2 ⟨rfl, hb⟩
  replace B := below_to (below_to B ((Below.refl _ _).alloc (Nat.le_refl _) _)) hb
  clear hb
  go_wp2_with fail
  refine (n2.out _).mono ?_
  rintro x w' ⟨rfl, rfl⟩
  go_wp2_with fail
  refine (n3.out _).mono ?_
  rintro x w3 ⟨rfl, hb⟩
  replace B := below_to B hb
  go_wp2_with fail
  go_ret2
  exact ⟨rfl, B⟩
theorem home_seal (a : Int) (p c : ByteArray) (w : World) (h : okS 4 a 0 p.size) (hz : allZ p.data.toList = false)
    (HS : ∀ w, Calls Try.prog 11 #[.agg #[.int .i64 4, .int .u64 0, .int .u64 0, .int .i64 a, .int .i64 0, .string p]] w fun x w' => x = strErr c 0 ∧ Below w.heap.size w w') :
    Calls Try.prog 18 #[.int .i64 a, .string p] w fun x w' => x = strErr c 0 ∧ Below w.heap.size w w' := by
  have hs : p.size ≤ maxLen := by rw [h.2.2.2.2.2.2]; decide
  have n1 := Lib.hid (fun w => check_ok 4 0 0 a 0 p w h)
  have n2 := Lib.hid (fun w => noughts_any p w hs)
  rw [hz] at n2
  have n3 := Lib.hid HS
  clear h hz hs HS
  go_enter Try.func18, Try.ntmps18
  go_wp2_with fail
  refine (home_any a p _).mono ?_
  rintro x w1 ⟨rfl, B⟩
  go_wp2_with fail
  refine (n1.out _).mono ?_
  rintro x w2 ⟨rfl, hb⟩
  have S := (SecW.new w1 4 0 0 a 0 p 29).below hb
  replace B := below_to (below_to B ((Below.refl _ _).alloc (Nat.le_refl _) _)) hb
  clear hb
  obtain ⟨⟨c0, c1, c2, c3, c4, c5⟩, f0, f1, f2, f3, f4, f5⟩ := S
  go_wp2_with fail
  refine (n2.out _).mono ?_
  rintro x w' ⟨rfl, rfl⟩
  go_wp2_with fail
  refine (n3.out _).mono ?_
  rintro x w3 ⟨rfl, hb⟩
  replace B := below_to B hb
  unfold strErr
  go_wp2_with fail
  go_ret2
  exact ⟨rfl, B⟩
theorem home_no (a : Int) (p : ByteArray) (w : World) (h : ¬ okS 4 a 0 p.size) :
    Calls Try.prog 18 #[.int .i64 a, .string p] w fun x w' => x = strErr ByteArray.empty 18 ∧ Below w.heap.size w w' := by
  have n1 := Lib.hid (fun w => check_no 4 0 0 a 0 p w h)
  have n3 := Lib.hid (fun w => seal_no 4 0 0 a 0 p w h)
  clear h
  go_enter Try.func18, Try.ntmps18
  go_wp2_with fail
  refine (home_any a p _).mono ?_
  rintro x w1 ⟨rfl, B⟩
  go_wp2_with fail
  refine (n1.out _).mono ?_
  rintro x w2 ⟨rfl, hb⟩
  have S := (SecW.new w1 4 0 0 a 0 p 29).below hb
  replace B := below_to (below_to B ((Below.refl _ _).alloc (Nat.le_refl _) _)) hb
  clear hb
  obtain ⟨⟨c0, c1, c2, c3, c4, c5⟩, f0, f1, f2, f3, f4, f5⟩ := S
  go_wp2_with fail
  refine (n3.out _).mono ?_
  rintro x w3 ⟨rfl, hb⟩
  replace B := below_to B hb
  unfold strErr
  go_wp2_with fail
  go_ret2
  exact ⟨rfl, B⟩
theorem rhome_blank (a : Int) (p z : ByteArray) (w : World) (h1 : 0 ≤ a) (h2 : a ≤ 65535) (hp : z480 = p) (hb : z512 = z) :
    Calls Try.prog 19 #[.int .i64 a, .string p] w fun x w' => x = strErr z 0 ∧ Below w.heap.size w w' := by
  have n1 := Lib.hid (fun w => rzeros_lit 480 480 p rfl hp w (by omega) (by omega))
  have n2 := Lib.hid (fun w => rzeros_lit 512 512 z rfl hb w (by omega) (by omega))
  clear hp hb
  go_enter Try.func19, Try.ntmps19
  go_wp2_with fail
  refine (n1.out _).mono ?_
  rintro x w1 ⟨rfl, B⟩
  go_wp2_with fail
  refine (n2.out _).mono ?_
  rintro x w2 ⟨rfl, hb⟩
  replace B := below_to B hb
  go_wp2_with fail
  go_ret2
  exact ⟨rfl, B⟩
theorem rhome_seal (a : Int) (p c : ByteArray) (y : Int) (w : World) (h1 : 0 ≤ a) (h2 : a ≤ 65535) (hp : p ≠ z480)
    (HS : ∀ w, Calls Try.prog 13 #[.agg #[.int .i64 4, .int .u64 0, .int .u64 0, .int .i64 a, .int .i64 0, .string p]] w fun x w' => x = strErr c y ∧ Below w.heap.size w w') :
    Calls Try.prog 19 #[.int .i64 a, .string p] w fun x w' => x = strErr c y ∧ Below w.heap.size w w' := by
  obtain ⟨q, hq⟩ : ∃ q, z480 = q := ⟨_, rfl⟩
  have n1 := Lib.hid (fun w => rzeros_lit 480 480 q rfl hq w (by omega) (by omega))
  rw [hq] at hp
  have hd := str_nbeq hp
  have n2 := Lib.hid HS
  clear hp hq HS
  go_enter Try.func19, Try.ntmps19
  go_wp2_with fail
  refine (n1.out _).mono ?_
  rintro x w1 ⟨rfl, B⟩
  go_wp2_with fail
  refine (n2.out _).mono ?_
  rintro x w2 ⟨rfl, hb⟩
  replace B := below_to B hb
  unfold strErr
  go_wp2_with fail
  go_ret2
  exact ⟨rfl, B⟩
theorem rhome_out (a : Int) (p : ByteArray) (w : World) (h : ¬ (0 ≤ a ∧ a ≤ 65535)) :
    Calls Try.prog 19 #[.int .i64 a, .string p] w fun x w' => x = strErr ByteArray.empty 18 ∧ Below w.heap.size w w' := by
  have n2 := Lib.hid (fun w => rseal_no 4 0 0 a 0 p w (fun k => h ⟨k.2.2.1, k.2.2.2.1⟩))
  by_cases h1 : 0 ≤ a
  · have h2 : 65535 < a := by omega
    clear h
    go_enter Try.func19, Try.ntmps19
    go_wp2_with fail
    refine (n2.out _).mono ?_
    rintro x w2 ⟨rfl, B⟩
    unfold strErr
    go_wp2_with fail
    go_ret2
    exact ⟨rfl, B⟩
  · clear h
    go_enter Try.func19, Try.ntmps19
    go_wp2_with fail
    refine (n2.out _).mono ?_
    rintro x w2 ⟨rfl, B⟩
    unfold strErr
    go_wp2_with fail
    go_ret2
    exact ⟨rfl, B⟩
end Go.Proofs.Ytplngodilalbhaa

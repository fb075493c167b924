/- The examples of the disk hold. -/
import Derived.Test.YtplngodilalbhaaD8
namespace Go.Proofs.Ytplngodilalbhaa
open Go.RowKit Go.Shelf
section
variable {K : Nat → Prop} {w w1 : World} {d sb : Nat} {S : List ByteArray} {pv : Value} {P : List (Int × ByteArray)} {fuse : Int} {down : Bool} {ops : Int}
theorem write_lit (h : Disk K w d sb S pv P fuse down ops) (I : Int) (i : Nat) (hI : I = (i : Int)) (s : ByteArray) (hi : i < S.length) (hs : s.size = 512) (hP : P.length ≤ 1000000) (hf2 : fuse ≤ 9223372036854775807) (ho : 0 ≤ ops) (ho2 : ops < 4611686018427387904) (fuse' ops' : Int) (down' : Bool) (hop : opF fuse down ops = (0, fuse', down', ops')) :
    Calls Try.prog 34 #[.pointer (some ⟨d, 0, none⟩), .int .i64 I, .string s] w fun e w' => e = .returned (.int .i64 0) ∧ (∃ pv', Disk K w' d sb S pv' (P ++ [(I, s)]) fuse' down' ops') ∧ Keep K w w' := by
  subst hI; exact write_ok h i s hi hs hP hf2 ho ho2 fuse' ops' down' hop
theorem read_lit (h : Disk K w d sb S pv P fuse false ops) (I : Int) (i : Nat) (hI : I = (i : Int)) (hi : i < S.length) (hP : P.length ≤ 1000000) (t : ByteArray) (ht : readT S P i = t) :
    Calls Try.prog 27 #[.pointer (some ⟨d, 0, none⟩), .int .i64 I] w fun e w' => e = .returned (.tuple #[.string t, .int .i64 0]) ∧ Below w.heap.size w w' := by
  subst hI ht; exact read_ok h i hi hP
theorem down_lit (h : Disk K w d sb S pv P fuse down ops) (I : Int) (i : Nat) (hI : I = (i : Int)) (s : ByteArray) (hi : i < S.length) (hs : s.size = 512) (hf2 : fuse ≤ 9223372036854775807) (ho : 0 ≤ ops) (ho2 : ops < 4611686018427387904) (fuse' ops' : Int) (down' : Bool) (hop : opF fuse down ops = (17, fuse', down', ops')) :
    Calls Try.prog 34 #[.pointer (some ⟨d, 0, none⟩), .int .i64 I, .string s] w fun e w' => e = .returned (.int .i64 17) ∧ Disk K w' d sb S pv P fuse' down' ops' ∧ Keep K w w' := by
  subst hI; exact write_down h i s hi hs hf2 ho ho2 fuse' ops' down' hop
theorem short_lit (h : Disk K w d sb S pv P fuse down ops) (I : Int) (i : Nat) (hI : I = (i : Int)) (s : ByteArray) (hi : i < S.length) (hs : s.size ≠ 512) : Calls Try.prog 34 #[.pointer (some ⟨d, 0, none⟩), .int .i64 I, .string s] w fun e w' => e = .returned (.int .i64 18) ∧ w = w' := by
  subst hI; exact write_short h i s hi hs
theorem len_lit (h : Disk K w d sb S pv P fuse down ops) (N : Int) (hN : N = (S.length : Int)) : Calls Try.prog 33 #[.pointer (some ⟨d, 0, none⟩)] w fun e w' => e = .returned (.int .i64 N) ∧ w = w' := by
  subst hN; exact len_any h
theorem pending_lit (h : Disk K w d sb S pv P fuse down ops) (N : Int) (hN : N = (P.length : Int)) : Calls Try.prog 29 #[.pointer (some ⟨d, 0, none⟩)] w fun e w' => e = .returned (.int .i64 N) ∧ w = w' := by
  subst hN; exact pending_any h
theorem flush_lit (h : Disk K w d sb S pv P fuse down ops) (hF : Fits P S.length) (hP : P.length ≤ 1000000) (hf2 : fuse ≤ 9223372036854775807) (ho : 0 ≤ ops) (ho2 : ops < 4611686018427387904) (fuse' ops' : Int) (down' : Bool) (hop : opF fuse down ops = (0, fuse', down', ops')) (S' : List ByteArray) (hS : appl S P (fun _ => true) P.length = S') :
    Calls Try.prog 36 #[.pointer (some ⟨d, 0, none⟩)] w fun e w' => e = .returned (.int .i64 0) ∧ Disk K w' d sb S' (.slice none 0 0) [] fuse' down' ops' ∧ Keep K w w' := by
  subst hS; exact flush_ok h hF hP hf2 ho ho2 fuse' ops' down' hop
theorem up_lit (h : Disk K w d sb S pv P fuse down ops) (hF : Fits P S.length) (hP : P.length ≤ 1000000) {ka : Option Addr} {kn kc : Nat} {ks : List Bool} (hB : Bools K w ka kn ks) (N : Int) (hN : N = (cntq (keptQ ks) P.length : Nat)) (S' : List ByteArray) (hS : appl S P (keptQ ks) P.length = S') :
    Calls Try.prog 38 #[.pointer (some ⟨d, 0, none⟩), .slice ka kn kc] w fun e w' => e = .returned (.int .i64 N) ∧ Disk K w' d sb S' (.slice none 0 0) [] 0 false ops ∧ Keep K w w' := by
  subst hN hS; exact up_any h hF hP hB
theorem arm_lit (h : Disk K w d sb S pv P fuse down ops) (n m : Int) (hm : max n 0 = m) : Calls Try.prog 37 #[.pointer (some ⟨d, 0, none⟩), .int .i64 n] w fun e w' => e = .returned (.tuple #[]) ∧ Disk K w' d sb S pv P m down ops ∧ Keep K w w' := by
  subst hm; exact arm_any h n
end
theorem fits1 (t : ByteArray) : Fits [(0, t)] 2 := fun j hj => by
  match j, hj with
  | 0, _ => exact ⟨0, by omega, rfl⟩
theorem fits2 (t u : ByteArray) : Fits [(0, t), (1, u)] 2 := fun j hj => by
  match j, hj with
  | 0, _ => exact ⟨0, by omega, rfl⟩
  | 1, _ => exact ⟨1, by omega, rfl⟩
theorem two_bools {K : Nat → Prop} (w : World) : Bools (fun k => K k ∨ k = w.heap.size) (w.alloc (.cells #[.bool false, .bool true] 4)) (some ⟨w.heap.size, 0, none⟩) 2 [false, true] := by
  refine ⟨rfl, .inr ⟨w.heap.size, 0, rfl, .inr rfl, fun j hj => ?_⟩⟩
  match j, hj with
  | 0, _ => simp [go_sem]
  | 1, _ => simp [go_sem]
set_option maxRecDepth 100000 in
set_option maxHeartbeats 4000000 in
theorem lives7 (w : World) : Calls Try.prog 22 #[] w fun e w' => e = .returned (.bool true) ∧ Below w.heap.size w w' := by
  obtain ⟨Z, hZ⟩ : ∃ Z, z512 = Z := ⟨_, rfl⟩
  obtain ⟨T1, hT1, s1⟩ : ∃ T, bs (List.replicate 512 1) = T ∧ T.size = 512 := ⟨_, rfl, rep_size 512 1⟩
  obtain ⟨T2, hT2, s2⟩ : ∃ T, bs (List.replicate 512 2) = T ∧ T.size = 512 := ⟨_, rfl, rep_size 512 2⟩
  obtain ⟨T3, hT3, s3⟩ : ∃ T, bs (List.replicate 512 3) = T ∧ T.size = 512 := ⟨_, rfl, rep_size 512 3⟩
  obtain ⟨T4, hT4, s4⟩ : ∃ T, bs (List.replicate 512 4) = T ∧ T.size = 512 := ⟨_, rfl, rep_size 512 4⟩
  have t1 := Lib.hid (fun w => text_lit 1 1 (by decide) T1 hT1 w)
  have t2 := Lib.hid (fun w => text_lit 2 2 (by decide) T2 hT2 w)
  have t3 := Lib.hid (fun w => text_lit 3 3 (by decide) T3 hT3 w)
  have t4 := Lib.hid (fun w => text_lit 4 4 (by decide) T4 hT4 w)
  have hnew : ∀ w, Calls Try.prog 23 #[.int .i64 2] w fun e w' => ∃ d sb, e = .returned (.tuple #[.pointer (some ⟨d, 0, none⟩), .int .i64 0]) ∧ Disk (fun k => k < w.heap.size) w' d sb [Z, Z] (.slice none 0 0) [] 0 false 0 ∧ Below w.heap.size w w' := fun w => new_ok (K := fun k => k < w.heap.size) 2 w (by omega) (by omega) Z hZ (fun k hk => hk)
  have HN := Lib.hid hnew
  have hs1 := Lib.hid s1
  have hs2 := Lib.hid s2
  have hs3 := Lib.hid s3
  have hs4 := Lib.hid s4
  clear hT1 hT2 hT3 hT4 hZ hnew s1 s2 s3 s4
  go_enter Try.func22, Try.ntmps22
  go_wp2_with fail
  refine (HN.out _).mono ?_
  rintro e w1 ⟨d, sb, rfl, D, B⟩
  go_wp2_with fail
  refine (new_bad 0 _ (.inl (by omega))).mono ?_
  rintro e w' ⟨rfl, rfl⟩
  go_wp2_with fail
  refine (t1.out _).mono ?_
  rintro e w2 ⟨rfl, hb⟩
  replace D := D.below hb
  replace B := below_to B hb
  clear hb
  go_wp2_with fail
  refine (write_lit D 0 0 rfl T1 (by simp) hs1.out (by simp) (by omega) (by omega) (by omega) 0 1 false rfl).mono ?_
  rintro e w3 ⟨rfl, ⟨pv1, D1⟩, hk⟩
  replace B := B.trans hk.toBelow
  clear hk D
  go_wp2_with fail
  refine (flush_lit D1 (fits1 T1) (by simp) (by omega) (by omega) (by omega) 0 2 false rfl [T1, Z] rfl).mono ?_
  rintro e w4 ⟨rfl, D2, hk⟩
  replace B := B.trans hk.toBelow
  clear hk D1
  go_wp2_with fail
  refine (t2.out _).mono ?_
  rintro e w5 ⟨rfl, hb⟩
  replace D2 := D2.below hb
  replace B := below_to B hb
  clear hb
  go_wp2_with fail
  refine (write_lit D2 0 0 rfl T2 (by simp) hs2.out (by simp) (by omega) (by omega) (by omega) 0 3 false rfl).mono ?_
  rintro e w6 ⟨rfl, ⟨pv3, D3⟩, hk⟩
  replace B := B.trans hk.toBelow
  clear hk D2
  go_wp2_with fail
  refine (t3.out _).mono ?_
  rintro e w7 ⟨rfl, hb⟩
  replace D3 := D3.below hb
  replace B := below_to B hb
  clear hb
  go_wp2_with fail
  refine (write_lit D3 1 1 rfl T3 (by simp) hs3.out (by simp) (by omega) (by omega) (by omega) 0 4 false rfl).mono ?_
  rintro e w8 ⟨rfl, ⟨pv4, D4⟩, hk⟩
  replace B := B.trans hk.toBelow
  clear hk D3
  go_wp2_with fail
  refine (read_lit D4 0 0 rfl (by simp) (by simp) T2 (by simp [readT])).mono ?_
  rintro e w9 ⟨rfl, hb⟩
  replace D4 := D4.below hb
  replace B := below_to B hb
  clear hb
  go_wp2_with fail
  refine (arm_lit D4 1 1 (by omega)).mono ?_
  rintro e w10 ⟨rfl, D5, hk⟩
  replace B := B.trans hk.toBelow
  clear hk D4
  go_wp2_with fail
  refine (t4.out _).mono ?_
  rintro e w11 ⟨rfl, hb⟩
  replace D5 := D5.below hb
  replace B := below_to B hb
  clear hb
  go_wp2_with fail
  refine (down_lit D5 0 0 rfl T4 (by simp) hs4.out (by omega) (by omega) (by omega) 1 4 true rfl).mono ?_
  rintro e w12 ⟨rfl, D6, hk⟩
  replace B := B.trans hk.toBelow
  clear hk D5
  go_wp2_with fail
  refine (read_down D6 0).mono ?_
  rintro e w13 ⟨rfl, hb⟩
  replace D6 := D6.below hb
  replace B := below_to B hb
  clear hb
  go_wp2_with fail
  refine (down_any D6).mono ?_
  rintro e w' ⟨rfl, rfl⟩
  go_wp2_with fail
  refine (ops_any D6).mono ?_
  rintro e w' ⟨rfl, rfl⟩
  go_wp2_with fail
  have G := D6.guard (.cells #[.bool false, .bool true] 4)
  replace B := below_to B ((Below.refl w13.heap.size w13).alloc (Nat.le_refl _) (.cells #[.bool false, .bool true] 4))
  refine (up_lit G (fits2 T2 T3) (by simp) (two_bools w13) 1 rfl [T1, T3] rfl).mono ?_
  rintro e w14 ⟨rfl, D7, hk⟩
  replace B := B.trans (hk.mono (L := fun k => k < w.heap.size) (fun k hk => .inl hk)).toBelow
  replace D7 := D7.weaken (L := fun k => k < w.heap.size) (fun k hk => .inl hk)
  clear hk G D6
  go_wp2_with fail
  refine (read_lit D7 0 0 rfl (by simp) (by simp) T1 (by simp [readT])).mono ?_
  rintro e w15 ⟨rfl, hb⟩
  replace D7 := D7.below hb
  replace B := below_to B hb
  clear hb
  go_wp2_with fail
  refine (read_lit D7 1 1 rfl (by simp) (by simp) T3 (by simp [readT])).mono ?_
  rintro e w16 ⟨rfl, hb⟩
  replace D7 := D7.below hb
  replace B := below_to B hb
  clear hb
  go_wp2_with fail
  refine (t2.out _).mono ?_
  rintro e w17 ⟨rfl, hb⟩
  replace D7 := D7.below hb
  replace B := below_to B hb
  clear hb
  go_wp2_with fail
  refine (t1.out _).mono ?_
  rintro e w18 ⟨rfl, hb⟩
  replace D7 := D7.below hb
  replace B := below_to B hb
  clear hb
  go_wp2_with fail
  refine (t3.out _).mono ?_
  rintro e w19 ⟨rfl, hb⟩
  replace D7 := D7.below hb
  replace B := below_to B hb
  clear hb
  go_wp2_with fail
  refine (pending_lit D7 0 rfl).mono ?_
  rintro e w' ⟨rfl, rfl⟩
  go_wp2_with fail
  refine (len_lit D7 2 rfl).mono ?_
  rintro e w' ⟨rfl, rfl⟩
  go_wp2_with fail
  refine (t1.out _).mono ?_
  rintro e w20 ⟨rfl, hb⟩
  replace D7 := D7.below hb
  replace B := below_to B hb
  clear hb
  go_wp2_with fail
  refine (write_out D7 2 T1 (.inr (by simp))).mono ?_
  rintro e w' ⟨rfl, rfl⟩
  go_wp2_with fail
  refine (short_lit D7 0 0 rfl ⟨#[120]⟩ (by simp) (by decide)).mono ?_
  rintro e w' ⟨rfl, rfl⟩
  go_wp2_with fail
  go_ret
  exact ⟨rfl, B⟩
end Go.Proofs.Ytplngodilalbhaa

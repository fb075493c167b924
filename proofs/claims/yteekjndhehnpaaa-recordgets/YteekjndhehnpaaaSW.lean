/- Contracts: the reference's PutTenant, PutBucket, PutVersion, PutUpload, PutPart. -/
import Derived.Test.YteekjndhehnpaaaSU
import Derived.Test.YteekjndhehnpaaaSL
namespace Go.Proofs.Yteekjndhehnpaaa
open Go.RowKit
set_option maxRecDepth 100000
set_option linter.unusedVariables false
set_option linter.unusedSimpArgs false
set_option maxHeartbeats 8000000
theorem rputTenant_main (a b c d : Int) (V1 V2 : Bool) (S : ByteArray)
    (H1 : Hid (∀ w, Calls Try.prog 66 #[.agg #[.int .i64 a, .int .i64 b]] w fun e w' => e = .returned (.bool V1) ∧ Below w.heap.size w w'))
    (H2 : Hid (∀ w, Calls Try.prog 67 #[.agg #[.int .i64 c, .int .i64 d]] w fun e w' => e = .returned (.bool V2) ∧ Below w.heap.size w w'))
    (H3 : Hid (∀ w, Calls Try.prog 68 #[.agg #[.int .i64 a, .int .i64 b], .agg #[.int .i64 c, .int .i64 d]] w fun e w' => e = .returned (.string S) ∧ Below w.heap.size w w'))
    (w : World) : Calls Try.prog 29 #[.agg #[.int .i64 a, .int .i64 b, .int .i64 c, .int .i64 d]] w fun e w' => e = .returned (.tuple #[pickV (V1 && V2) (.string S) (.string ⟨#[]⟩), .int .i64 (argE (V1 && V2))]) ∧ Below w.heap.size w w' := by
  have K0 := Blk.new w [.int .i64 a, .int .i64 b, .int .i64 c, .int .i64 d] 49
  have BB0 := below_box w (.cells #[.int .i64 a, .int .i64 b, .int .i64 c, .int .i64 d] 49)
  cases V1 with
  | false =>
    show Calls _ _ _ _ fun e w' => e = .returned (.tuple #[.string ⟨#[]⟩, .int .i64 18]) ∧ Below w.heap.size w w'
    go_enter Try.func29, Try.ntmps29
    go_wp2_with fail
    refine (H1.out _).mono ?_
    rintro e w1 ⟨rfl, hb⟩
    go_wp2_with fail
    go_ret2
    exact ⟨rfl, below_to BB0 hb⟩
  | true =>
    cases V2 with
    | false =>
      show Calls _ _ _ _ fun e w' => e = .returned (.tuple #[.string ⟨#[]⟩, .int .i64 18]) ∧ Below w.heap.size w w'
      go_enter Try.func29, Try.ntmps29
      go_wp2_with fail
      refine (H1.out _).mono ?_
      rintro e w1 ⟨rfl, hb⟩
      have K := K0.below hb
      have BB := below_to BB0 hb
      have x0 := K.cell 0 _ rfl
      have x1 := K.cell 1 _ rfl
      have x2 := K.cell 2 _ rfl
      have x3 := K.cell 3 _ rfl
      go_wp2_with fail
      refine (H2.out _).mono ?_
      rintro e w2 ⟨rfl, hb2⟩
      go_wp2_with fail
      go_ret2
      exact ⟨rfl, below_to BB hb2⟩
    | true =>
      show Calls _ _ _ _ fun e w' => e = .returned (.tuple #[.string S, .int .i64 0]) ∧ Below w.heap.size w w'
      go_enter Try.func29, Try.ntmps29
      go_wp2_with fail
      refine (H1.out _).mono ?_
      rintro e w1 ⟨rfl, hb⟩
      have K := K0.below hb
      have BB := below_to BB0 hb
      have x0 := K.cell 0 _ rfl
      have x1 := K.cell 1 _ rfl
      have x2 := K.cell 2 _ rfl
      have x3 := K.cell 3 _ rfl
      go_wp2_with fail
      refine (H2.out _).mono ?_
      rintro e w2 ⟨rfl, hb2⟩
      have K2 := K.below hb2
      have BB2 := below_to BB hb2
      have y0 := K2.cell 0 _ rfl
      have y1 := K2.cell 1 _ rfl
      have y2 := K2.cell 2 _ rfl
      have y3 := K2.cell 3 _ rfl
      go_wp2_with fail
      refine (H3.out _).mono ?_
      rintro e w3 ⟨rfl, hb3⟩
      go_wp2_with fail
      go_ret2
      exact ⟨rfl, below_to BB2 hb3⟩
theorem pick_enc (v : Bool) (l : List ByteArray) : pickV v (.string (joinB l)) (.string ⟨#[]⟩) = .string (encS v l) := by cases v <;> rfl
theorem rputTenant_any (a b c d : Int) (w : World) : Calls Try.prog 29 #[.agg #[.int .i64 a, .int .i64 b, .int .i64 c, .int .i64 d]] w fun e w' => e = .returned (.tuple #[.string (tenantS a b c d), .int .i64 (argE (limB a b && okB c d))]) ∧ Below w.heap.size w w' := by
  have := rputTenant_main a b c d _ _ _ (Lib.hid (rbound_any a b)) (Lib.hid (cright_any c d)) (Lib.hid (rcounts_any a b c d)) w
  rw [pick_enc] at this
  exact this
theorem rputPart_main (n : Nat) (f z : Int) (V : Bool) (S : ByteArray)
    (H1 : Hid (∀ w, Calls Try.prog 72 #[.agg #[.int .i64 f, .int .i64 z]] w fun e w' => e = .returned (.bool V) ∧ Below w.heap.size w w'))
    (H2 : Hid (∀ w, Calls Try.prog 73 #[.int .u32 (n : Int), .agg #[.int .i64 f, .int .i64 z]] w fun e w' => e = .returned (.string S) ∧ Below w.heap.size w w'))
    (w : World) : Calls Try.prog 37 #[.agg #[.int .u32 (n : Int), .int .i64 f, .int .i64 z]] w fun e w' => e = .returned (.tuple #[pickV V (.string S) (.string ⟨#[]⟩), .int .i64 (argE V)]) ∧ Below w.heap.size w w' := by
  have K0 := Blk.new w [.int .u32 (n : Int), .int .i64 f, .int .i64 z] 58
  have BB0 := below_box w (.cells #[.int .u32 (n : Int), .int .i64 f, .int .i64 z] 58)
  cases V with
  | false =>
    show Calls _ _ _ _ fun e w' => e = .returned (.tuple #[.string ⟨#[]⟩, .int .i64 18]) ∧ Below w.heap.size w w'
    go_enter Try.func37, Try.ntmps37
    go_wp2_with fail
    refine (H1.out _).mono ?_
    rintro e w1 ⟨rfl, hb⟩
    go_wp2_with fail
    go_ret2
    exact ⟨rfl, below_to BB0 hb⟩
  | true =>
    show Calls _ _ _ _ fun e w' => e = .returned (.tuple #[.string S, .int .i64 0]) ∧ Below w.heap.size w w'
    go_enter Try.func37, Try.ntmps37
    go_wp2_with fail
    refine (H1.out _).mono ?_
    rintro e w1 ⟨rfl, hb⟩
    have K := K0.below hb
    have BB := below_to BB0 hb
    have x0 := K.cell 0 _ rfl
    have x1 := K.cell 1 _ rfl
    have x2 := K.cell 2 _ rfl
    go_wp2_with fail
    refine (H2.out _).mono ?_
    rintro e w2 ⟨rfl, hb2⟩
    go_wp2_with fail
    go_ret2
    exact ⟨rfl, below_to BB hb2⟩
theorem rputPart_any (n : Nat) (hn : n < 4294967296) (f z : Int) (w : World) : Calls Try.prog 37 #[.agg #[.int .u32 (n : Int), .int .i64 f, .int .i64 z]] w fun e w' => e = .returned (.tuple #[.string (partS n f z), .int .i64 (argE (okBl f z))]) ∧ Below w.heap.size w w' := by
  have := rputPart_main n f z _ _ (Lib.hid (rBlob_any f z)) (Lib.hid (rbody_any n hn f z)) w
  rw [pick_enc] at this
  exact this
theorem rputUpload_any (k : ByteArray) (hk : k.size ≤ 1000) (w : World) : Calls Try.prog 35 #[.string k] w fun e w' => e = .returned (.tuple #[.string (encS (nameB k) [k]), .int .i64 (argE (nameB k))]) ∧ Below w.heap.size w w' := by
  have H1 : Hid (∀ w, Calls Try.prog 60 #[.string k] w fun e w' => e = .returned (.bool (nameB k)) ∧ w = w') := Lib.hid (fun w => rkey_any k (by omega) w)
  have e1 : joinB [k] = k := by rw [joinB_list]; simp [bs_of]
  have := pick_enc (nameB k) [k]
  rw [e1] at this
  rw [← this]
  clear this e1
  generalize nameB k = V at H1 ⊢
  cases V with
  | false =>
    show Calls _ _ _ _ fun e w' => e = .returned (.tuple #[.string ⟨#[]⟩, .int .i64 18]) ∧ Below w.heap.size w w'
    go_enter Try.func35, Try.ntmps35
    go_wp2_with fail
    refine (H1.out _).mono ?_
    rintro e w1 ⟨rfl, rfl⟩
    go_wp2_with fail
    go_ret2
    exact ⟨rfl, Below.refl _ _⟩
  | true =>
    show Calls _ _ _ _ fun e w' => e = .returned (.tuple #[.string k, .int .i64 0]) ∧ Below w.heap.size w w'
    go_enter Try.func35, Try.ntmps35
    go_wp2_with fail
    refine (H1.out _).mono ?_
    rintro e w1 ⟨rfl, rfl⟩
    go_wp2_with fail
    go_ret2
    exact ⟨rfl, Below.refl _ _⟩
end Go.Proofs.Yteekjndhehnpaaa

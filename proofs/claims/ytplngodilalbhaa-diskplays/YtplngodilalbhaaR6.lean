/- The reference's disk: Flush, Read; Same. -/
import Derived.Test.YtplngodilalbhaaR5
namespace Go.Proofs.Ytplngodilalbhaa
open Go.RowKit Go.Shelf
section
variable {K : Nat → Prop} {sa wa : Option Addr} {sn wn wc : Nat} {S : List ByteArray} {W : List (Int × ByteArray)}
set_option maxRecDepth 100000 in
set_option maxHeartbeats 1000000 in
theorem rflush_down (sc : Nat) (arm : Int) (dead : Bool) (ops : Int) (w : World) (h : Ref K w sa sn wa wn wc S W) (hK : ∀ k, K k → k < w.heap.size)
    (hf2 : arm ≤ 9223372036854775807) (ho : 0 ≤ ops) (ho2 : ops < 4611686018427387904) (arm' : Int) (dead' : Bool) (ops' : Int) (hq : opR arm dead ops = (false, arm', dead', ops')) :
    Calls Try.prog 58 #[.agg #[.slice sa sn sc, .slice wa wn wc, .int .i64 arm, .bool dead, .int .i64 ops]] w (RdRet K S W arm' dead' ops' 17 w) := by
  have n1 := Lib.hid (fun w => rstep_any sa sn sc wa wn wc arm dead ops w hf2 ho ho2 _ _ _ _ hq)
  have H := Lib.hid h
  clear h hq
  go_enter Try.func58, Try.ntmps58
  go_wp2_with fail
  refine (n1.out _).mono ?_
  rintro e w1 ⟨rfl, B⟩
  have F1 := ((Five.new w (.slice sa sn sc) (.slice wa wn wc) (.int .i64 arm) (.bool dead) (.int .i64 ops) 52).alloc (.cells #[.slice none 0 0, .slice none 0 0, .int .i64 0, .bool false, .int .i64 0] 52)).below B (by simp; omega)
  have F2 := (Five.new (w.alloc (.cells #[.slice sa sn sc, .slice wa wn wc, .int .i64 arm, .bool dead, .int .i64 ops] 52)) (.slice none 0 0) (.slice none 0 0) (.int .i64 0) (.bool false) (.int .i64 0) 52).below B (by simp)
  have hwb : (w.alloc (.cells #[.slice sa sn sc, .slice wa wn wc, .int .i64 arm, .bool dead, .int .i64 ops] 52)).heap.size = w.heap.size + 1 := by simp
  rw [hwb] at F2
  have B' := below_to (((Below.refl _ w).alloc (Nat.le_refl _) (.cells #[.slice sa sn sc, .slice wa wn wc, .int .i64 arm, .bool dead, .int .i64 ops] 52)).alloc (by simp) (.cells #[.slice none 0 0, .slice none 0 0, .int .i64 0, .bool false, .int .i64 0] 52)) B
  clear hwb B
  have G1 := F1.put (.slice sa sn sc) (.slice wa wn wc) (.int .i64 arm') (.bool dead') (.int .i64 ops')
  have G2 := F2.block (put5_block w1 w.heap.size (.slice sa sn sc) (.slice wa wn wc) (.int .i64 arm') (.bool dead') (.int .i64 ops') (w.heap.size + 1) (by omega))
  have B2 := put5_below (b := w.heap.size) B' (Nat.le_refl _) (.slice sa sn sc) (.slice wa wn wc) (.int .i64 arm') (.bool dead') (.int .i64 ops')
  obtain ⟨c0, c1, c2, c3, c4, f0, f1, f2, f3, f4⟩ := F1
  go_upto_region 3 with (fail)
  unfold put5 at G1 G2 B2
  generalize ((((w1.setCell ⟨w.heap.size, 0, none⟩ (.slice sa sn sc)).setCell ⟨w.heap.size, 1, none⟩ (.slice wa wn wc)).setCell ⟨w.heap.size, 2, none⟩ (.int .i64 arm')).setCell ⟨w.heap.size, 3, none⟩ (.bool dead')).setCell ⟨w.heap.size, 4, none⟩ (.int .i64 ops') = w2 at G1 G2 B2 ⊢
  clear c0 c1 c2 c3 c4 f0 f1 f2 f3 f4 F2 B' n1
  obtain ⟨c0, c1, c2, c3, c4, f0, f1, f2, f3, f4⟩ := G1
  obtain ⟨d0, d1, d2, d3, d4, e0, e1, e2, e3, e4⟩ := G2
  go_wp2_with fail
  refine bodyPost_ret (v := .tuple #[.agg #[.slice sa sn sc, .slice wa wn wc, .int .i64 arm', .bool dead', .int .i64 ops'], .int .i64 17]) (by simp [results, Try.results58, go_sem, d0, d1, d2, d3, d4]) rfl (rd_of sc arm' dead' ops' H.out hK ?_)
  iterate 5 refine Below.setCell ?_ (by simp) _
  exact B2
theorem rd_set {w w5 : World} {S' : List ByteArray} {g n : Nat} (hg : w.heap.size ≤ g) (hg' : g < w5.heap.size) (S5 : StrRow w5 g S') (hl : n = S'.length) {sc : Nat} {arm : Int} {dead : Bool} {ops y : Int} {w' : World}
    (B : Below w.heap.size w w') (hs : w5.heap.size ≤ w'.heap.size) (hb : w'.heap[g]? = w5.heap[g]?) :
    RdRet K S' [] arm dead ops y w (.returned (.tuple #[.agg #[.slice (some ⟨g, 0, none⟩) n sc, .slice none 0 0, .int .i64 arm, .bool dead, .int .i64 ops], .int .i64 y])) w' :=
  ⟨_, _, _, _, _, _, rfl, ⟨hl, ⟨g, rfl, .inr ⟨hg, by omega⟩, S5.block hb⟩, rfl, .inl ⟨rfl, rfl, rfl⟩⟩, B⟩
theorem Ref.wrsAt {w : World} (h : Ref K w sa sn wa wn wc S W) (hK : ∀ k, K k → k < w.heap.size) : WrsAt w.heap.size w wa wn W := by
  refine ⟨h.wn, ?_⟩
  rcases h.ws with ⟨_, _, h0⟩ | ⟨g, e, hg, hr⟩
  · exact .inl h0
  · exact .inr ⟨g, e, hK g hg, hr⟩
theorem WrsAt.mono {w : World} {B B' : Nat} {a : Option Addr} {n : Nat} {L : List (Int × ByteArray)} (h : WrsAt B w a n L) (hB : B ≤ B') : WrsAt B' w a n L :=
  ⟨h.1, h.2.imp id fun ⟨g, e, hg, hr⟩ => ⟨g, e, by omega, hr⟩⟩
set_option maxRecDepth 100000 in
set_option maxHeartbeats 1000000 in
theorem rflush_ok (sc : Nat) (arm : Int) (dead : Bool) (ops : Int) (w : World) (h : Ref K w sa sn wa wn wc S W) (hK : ∀ k, K k → k < w.heap.size) (hSn : S.length ≤ 1000000) (hWn : W.length ≤ 1000000) (hF : Fits W S.length)
    (hf2 : arm ≤ 9223372036854775807) (ho : 0 ≤ ops) (ho2 : ops < 4611686018427387904) (arm' : Int) (dead' : Bool) (ops' : Int) (hq : opR arm dead ops = (true, arm', dead', ops')) (S' : List ByteArray) (hS' : appl S W (fun _ => true) W.length = S') :
    Calls Try.prog 58 #[.agg #[.slice sa sn sc, .slice wa wn wc, .int .i64 arm, .bool dead, .int .i64 ops]] w (RdRet K S' [] arm' dead' ops' 0 w) := by
  have n1 := Lib.hid (fun w => rstep_any sa sn sc wa wn wc arm dead ops w hf2 ho ho2 _ _ _ _ hq)
  have H := Lib.hid h
  have HF := Lib.hid hF
  have HS' := Lib.hid hS'
  clear h hq hF hS'
  go_enter Try.func58, Try.ntmps58
  go_wp2_with fail
  refine (n1.out _).mono ?_
  rintro e w1 ⟨rfl, B⟩
  have F1 := ((Five.new w (.slice sa sn sc) (.slice wa wn wc) (.int .i64 arm) (.bool dead) (.int .i64 ops) 52).alloc (.cells #[.slice none 0 0, .slice none 0 0, .int .i64 0, .bool false, .int .i64 0] 52)).below B (by simp; omega)
  have F2 := (Five.new (w.alloc (.cells #[.slice sa sn sc, .slice wa wn wc, .int .i64 arm, .bool dead, .int .i64 ops] 52)) (.slice none 0 0) (.slice none 0 0) (.int .i64 0) (.bool false) (.int .i64 0) 52).below B (by simp)
  have hwb : (w.alloc (.cells #[.slice sa sn sc, .slice wa wn wc, .int .i64 arm, .bool dead, .int .i64 ops] 52)).heap.size = w.heap.size + 1 := by simp
  rw [hwb] at F2
  have B' := below_to (((Below.refl _ w).alloc (Nat.le_refl _) (.cells #[.slice sa sn sc, .slice wa wn wc, .int .i64 arm, .bool dead, .int .i64 ops] 52)).alloc (by simp) (.cells #[.slice none 0 0, .slice none 0 0, .int .i64 0, .bool false, .int .i64 0] 52)) B
  clear hwb B
  have G1 := F1.put (.slice sa sn sc) (.slice wa wn wc) (.int .i64 arm') (.bool dead') (.int .i64 ops')
  have G2 := F2.block (put5_block w1 w.heap.size (.slice sa sn sc) (.slice wa wn wc) (.int .i64 arm') (.bool dead') (.int .i64 ops') (w.heap.size + 1) (by omega))
  have B2 := put5_below (b := w.heap.size) B' (Nat.le_refl _) (.slice sa sn sc) (.slice wa wn wc) (.int .i64 arm') (.bool dead') (.int .i64 ops')
  obtain ⟨c0, c1, c2, c3, c4, f0, f1, f2, f3, f4⟩ := F1
  go_upto_region 4 with (fail)
  unfold put5 at G1 G2 B2
  generalize ((((w1.setCell ⟨w.heap.size, 0, none⟩ (.slice sa sn sc)).setCell ⟨w.heap.size, 1, none⟩ (.slice wa wn wc)).setCell ⟨w.heap.size, 2, none⟩ (.int .i64 arm')).setCell ⟨w.heap.size, 3, none⟩ (.bool dead')).setCell ⟨w.heap.size, 4, none⟩ (.int .i64 ops') = w2 at G1 G2 B2 ⊢
  clear c0 c1 c2 c3 c4 f0 f1 f2 f3 f4 F2 B' n1
  obtain ⟨c0, c1, c2, c3, c4, f0, f1, f2, f3, f4⟩ := G1
  have hsz2 : w.heap.size + 1 < w2.heap.size := G2.lt
  have R2 := H.out.keep (fun k hk => B2.block k (hK k hk))
  have hWA := (R2.wrsAt (fun k hk => by have := hK k hk; omega))
  obtain ⟨b, hb1, hb2, hrow⟩ := R2.s
  have hsn := R2.sn
  subst hb1 hsn
  have HB := Lib.hid (rsettle_any b sc S wa wn wc arm' dead' ops' wa wn wc W w2 hrow hSn hWA HF.out hWn S' HS'.out)
  clear hWA hrow R2
  go_wp2_with fail
  refine HB.out.mono ?_
  rintro e w3 ⟨g, cap, rfl, hg1, hg2, hrow3, B3⟩
  have Q2 := G2.below B3 hsz2
  have hB3 := below_to B2 B3
  have hgw : w.heap.size ≤ g := by omega
  have HX := Lib.hid (fun (w' : World) (B : Below w.heap.size w w') (hs : w3.heap.size ≤ w'.heap.size) (hb : w'.heap[g]? = w3.heap[g]?) => rd_set (K := K) (y := 0) (sc := cap) (arm := arm') (dead := dead') (ops := ops') hgw hg2 hrow3 rfl B hs hb)
  clear G2 B2 B3 hrow3 HB c0 c1 c2 c3 c4 f0 f1 f2 f3 f4
  obtain ⟨d0, d1, d2, d3, d4, e0, e1, e2, e3, e4⟩ := Q2
  go_wp2_with fail
  refine bodyPost_ret (v := .tuple #[.agg #[.slice (some ⟨g, 0, none⟩) S'.length cap, .slice none 0 0, .int .i64 arm', .bool dead', .int .i64 ops'], .int .i64 0]) (by simp [results, Try.results58, go_sem, d0, d1, d2, d3, d4]) rfl ?_
  refine HX.out _ ?_ ?_ ?_
  · iterate 5 refine Below.setCell ?_ (by simp) _
    exact hB3
  · simp
  · iterate 5 refine (heap_set _ _ _ _ _ (by omega)).trans ?_
    rfl
end
theorem drewN_below (w : World) (j : Nat) : Below w.heap.size w (w.drewN j) := ⟨rfl, rfl, rfl, Nat.le_refl _, fun _ _ => rfl⟩
set_option maxHeartbeats 1000000 in
theorem same_any (a b n c1 c2 : Nat) (S : List ByteArray) (hn : n = S.length) (w : World) (h1 : StrRow w a S) (h2 : StrRow w b S) (hS : S.length ≤ 1000000) : Calls Try.prog 31 #[.slice (some ⟨a, 0, none⟩) n c1, .slice (some ⟨b, 0, none⟩) n c2] w fun e w' => e = .returned (.bool true) ∧ Below w.heap.size w w' := by
  subst hn
  have H1 := Lib.hid h1
  have H2 := Lib.hid h2
  clear h1 h2
  go_enter Try.func31, Try.ntmps31
  go_wp2_with fail
  go_loopw [5] (fun i wx => ∃ k j : Nat, k ≤ S.length ∧ wx = w.drewN j ∧ i = .int .i64 (k : Int)) (fun i _ => S.length - (intOf i).toNat)
  case atStart => exact ⟨0, 0, by omega, rfl, rfl⟩
  case round =>
    obtain ⟨k, j, hk, rfl, rfl⟩ := hrel
    by_cases hlt : k < S.length
    · have p := H1.out k hlt
      have q := H2.out k hlt
      generalize S[k] = T at p q
      go_wp2_with fail
      go_quiet (fail)
      go_wp2_with fail
      go_roundw
      case rel => exact ⟨k + 1, _, by omega, rfl, by go_num⟩
      case measure => simp [intOf]; omega
    · go_wp2_with fail
      go_ret
      exact ⟨rfl, drewN_below w j⟩
theorem readT_snoc (S : List ByteArray) (P : List (Int × ByteArray)) (i k : Nat) (hk : k < P.length) : readT S (P.take (k + 1)) i = if P[k].1 = (i : Int) then P[k].2 else readT S (P.take k) i := by
  unfold readT
  rw [List.take_succ_eq_append_getElem hk, List.foldl_append]
  rfl
section
variable {K : Nat → Prop} {sa wa : Option Addr} {sn wn wc : Nat} {S : List ByteArray} {W : List (Int × ByteArray)}
theorem rread_down (sc : Nat) (arm : Int) (ops : Int) (i : Int) (w : World) : Calls Try.prog 26 #[.agg #[.slice sa sn sc, .slice wa wn wc, .int .i64 arm, .bool true, .int .i64 ops], .int .i64 i] w fun e w' => e = .returned (.tuple #[.string ByteArray.empty, .int .i64 17]) ∧ Below w.heap.size w w' := by
  go_enter Try.func26, Try.ntmps26
  go_wp2
  go_ret2
  exact ⟨rfl, (Below.refl _ _).alloc (Nat.le_refl _) _⟩
theorem rread_out (sc : Nat) (arm : Int) (ops : Int) (i : Int) (w : World) (hi : i < 0 ∨ (sn : Int) ≤ i) : Calls Try.prog 26 #[.agg #[.slice sa sn sc, .slice wa wn wc, .int .i64 arm, .bool false, .int .i64 ops], .int .i64 i] w fun e w' => e = .returned (.tuple #[.string ByteArray.empty, .int .i64 18]) ∧ Below w.heap.size w w' := by
  by_cases h0 : i < 0
  · clear hi
    go_enter Try.func26, Try.ntmps26
    go_wp2
    go_ret2
    exact ⟨rfl, (Below.refl _ _).alloc (Nat.le_refl _) _⟩
  · have h1 : (sn : Int) ≤ i := by omega
    clear hi
    go_enter Try.func26, Try.ntmps26
    go_wp2
    go_ret2
    exact ⟨rfl, (Below.refl _ _).alloc (Nat.le_refl _) _⟩
set_option maxRecDepth 100000 in
set_option maxHeartbeats 1000000 in
theorem rread_ok (sc : Nat) (arm : Int) (ops : Int) (i : Nat) (w : World) (h : Ref K w sa sn wa wn wc S W) (hi : i < S.length) (hWn : W.length ≤ 1000000) (T : ByteArray) (hT : readT S W i = T) : Calls Try.prog 26 #[.agg #[.slice sa sn sc, .slice wa wn wc, .int .i64 arm, .bool false, .int .i64 ops], .int .i64 (i : Int)] w fun e w' => e = .returned (.tuple #[.string T, .int .i64 0]) ∧ Below w.heap.size w w' := by
  have HTT := Lib.hid hT
  clear hT
  obtain ⟨b, rfl, _, hrow⟩ := h.s
  have e1 := h.sn
  have e2 := h.wn
  subst e1 e2
  have H := Lib.hid h
  have s1 : (w.alloc (.cells #[.slice (some ⟨b, 0, none⟩) S.length sc, .slice wa W.length wc, .int .i64 arm, .bool false, .int .i64 ops] 52)).cell? ⟨b, i, none⟩ = some (.string S[i]) := Lib.cell?_alloc_some _ (hrow i hi)
  have HT := Lib.hid (show S[i] = readT S (W.take 0) i by unfold readT; rw [List.getD_eq_getElem?_getD, List.getElem?_eq_getElem hi]; rfl)
  generalize S[i] = t0 at s1 HT
  clear hrow h
  have F := Five.new w (.slice (some ⟨b, 0, none⟩) S.length sc) (.slice wa W.length wc) (.int .i64 arm) (.bool false) (.int .i64 ops) 52
  go_enter Try.func26, Try.ntmps26
  go_wp2_with fail
  have hB : Below w.heap.size w (w.alloc (.cells #[.slice (some ⟨b, 0, none⟩) S.length sc, .slice wa W.length wc, .int .i64 arm, .bool false, .int .i64 ops] 52)) := (Below.refl _ _).alloc (Nat.le_refl _) _
  have hws : ∀ k (hk : k < W.length), ∃ g, wa = some ⟨g, 0, none⟩ ∧ (w.alloc (.cells #[.slice (some ⟨b, 0, none⟩) S.length sc, .slice wa W.length wc, .int .i64 arm, .bool false, .int .i64 ops] 52)).cell? ⟨g, k * 2, none⟩ = some (.int .i64 W[k].1) ∧ (w.alloc (.cells #[.slice (some ⟨b, 0, none⟩) S.length sc, .slice wa W.length wc, .int .i64 arm, .bool false, .int .i64 ops] 52)).cell? ⟨g, k * 2 + 1, none⟩ = some (.string W[k].2) := by
    intro k hk
    rcases H.out.ws with ⟨_, _, h0⟩ | ⟨g, e, _, hr⟩
    · rw [h0] at hk; simp at hk
    · exact ⟨g, e, Lib.cell?_alloc_some _ (hr k hk).1, Lib.cell?_alloc_some _ (hr k hk).2⟩
  have HWS := Lib.hid hws
  generalize w.alloc (.cells #[.slice (some ⟨b, 0, none⟩) S.length sc, .slice wa W.length wc, .int .i64 arm, .bool false, .int .i64 ops] 52) = wz at *
  clear hws s1
  obtain ⟨c0, c1, c2, c3, c4, f0, f1, f2, f3, f4⟩ := F
  go_loop [6, 7] (fun s k => ∃ (j : Nat) (t : ByteArray), j ≤ W.length ∧ Hid (t = readT S (W.take j) i) ∧ s = .string t ∧ k = .int .i64 (j : Int)) (fun _ k => W.length - (intOf k).toNat)
  case atStart => exact ⟨0, t0, Nat.zero_le _, HT, rfl, rfl⟩
  case round =>
    clear HT
    obtain ⟨j, t, hj, HT, rfl, rfl⟩ := hrel
    by_cases hlt : j < W.length
    · obtain ⟨g, rfl, p0, p1⟩ := HWS.out j hlt
      have HS := Lib.hid (readT_snoc S W i j hlt)
      generalize W[j] = x at p0 p1 HS
      by_cases hx : x.1 = (i : Int)
      · have hb : (x.1 == (i : Int)) = true := by rw [hx]; simp
        have HX := Lib.hid hx
        clear hx
        go_wp2_with fail
        go_round
        case rel => exact ⟨j + 1, x.2, by omega, Lib.hid (by rw [HS.out, if_pos HX.out]), rfl, by go_num⟩
        case measure => simp [intOf]; omega
      · have hb : (x.1 == (i : Int)) = false := by rw [beq_eq_false_iff_ne]; exact hx
        have HX := Lib.hid hx
        clear hx
        go_wp2_with fail
        go_round
        case rel => exact ⟨j + 1, t, by omega, Lib.hid (by rw [HS.out, if_neg HX.out]; exact HT.out), rfl, by go_num⟩
        case measure => simp [intOf]; omega
    · have hT : t = T := by rw [← HTT.out, HT.out, List.take_of_length_le (by omega)]
      clear HT HTT
      subst hT
      go_wp2_with fail
      go_ret2
      exact ⟨rfl, hB⟩
end
end Go.Proofs.Ytplngodilalbhaa

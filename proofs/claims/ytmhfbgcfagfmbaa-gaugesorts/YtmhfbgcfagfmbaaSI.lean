/- Contract: the reference's Sort. -/
import Derived.Test.YtmhfbgcfagfmbaaSH
import Derived.Test.YtmhfbgcfagfmbaaSC
namespace Go.Proofs.Ytmhfbgcfagfmbaa
open Go.RowKit
theorem info45s : (Try.prog.info? 45).map (fun i => (i.zero, i.size, i.bytes)) = some (some (.float .f64 0), 1, 8) := by kernel_rfl
theorem add_off (b off n : Nat) : Addr.add ⟨b, off, none⟩ n = ⟨b, off + n, none⟩ := by
  unfold Addr.add
  by_cases h : n = 0
  · subst h; simp
  · simp [h]
theorem below_on {w w1 w2 : World} (h : Below w.heap.size w w1) (h2 : Below w1.heap.size w1 w2) : Below w.heap.size w w2 := h.trans (h2.mono h.size)
theorem below_drewN (w : World) (n : Nat) : Below w.heap.size w (w.drewN n) := ⟨rfl, rfl, rfl, Nat.le_refl _, fun _ _ => rfl⟩
/-- A row that is built, in blocks that are new since w0. -/
structure RowOf (w0 : World) (T sz : Nat) (v : Value) (n : Nat) (xs : List Value) (wx : World) : Prop where
  own : wx.ownsRow w0.heap.size T sz v n xs
  below : Below w0.heap.size w0 wx
theorem RowOf.fresh (w : World) (T sz : Nat) : RowOf w T sz (.slice (some ⟨w.heap.size, 0, none⟩) 0 0) 0 [] (w.alloc (.cells #[] T)) :=
  ⟨World.ownsRow_made w #[] 0 (Nat.le_refl _) (by decide) (by simp), (Below.refl _ _).alloc (Nat.le_refl _) _⟩
theorem RowOf.snoc {w0 wr w1 : World} {T sz n m : Nat} {v v' : Value} {xs ys : List Value} {o : Obj} (h : RowOf w0 T sz v n xs wr) (hown : w1.ownsRow w0.heap.size T sz v' (n + m) (xs ++ ys)) (hg : (wr.alloc o).grownBy w1 v.ownBlock) : RowOf w0 T sz v' (n + m) (xs ++ ys) w1 :=
  ⟨hown, (h.below.alloc h.below.size o).grown hg (by have := h.below.size; simp; omega) (fun j hj => (h.own.lt j hj).1)⟩
theorem RowOf.snoc0 {w0 wr w1 : World} {T sz n m : Nat} {v v' : Value} {xs ys : List Value} (h : RowOf w0 T sz v n xs wr) (hown : w1.ownsRow w0.heap.size T sz v' (n + m) (xs ++ ys)) (hg : wr.grownBy w1 v.ownBlock) : RowOf w0 T sz v' (n + m) (xs ++ ys) w1 :=
  ⟨hown, h.below.grown hg h.below.size (fun j hj => (h.own.lt j hj).1)⟩
def flv (l : List Nat) : List Value := l.map (Value.float .f64)
theorem flv_one (l : List Nat) : ∀ u ∈ flv l, u.oneCell' = true := by
  intro u hu
  obtain ⟨x, _, rfl⟩ := List.mem_map.1 hu
  rfl
theorem flv_length (l : List Nat) : (flv l).length = l.length := by simp [flv]
theorem flv_get {l : List Nat} {j : Nat} {u : Value} (h : (flv l)[j]? = some u) : j < l.length ∧ u = .float .f64 (l.getD j 0) := by
  unfold flv at h
  rw [List.getElem?_map] at h
  obtain ⟨y, hy, rfl⟩ := Option.map_eq_some_iff.1 h
  obtain ⟨hj, rfl⟩ := List.getElem?_eq_some_iff.1 hy
  exact ⟨hj, by rw [List.getD_eq_getElem?_getD, List.getElem?_eq_getElem hj]; rfl⟩
/-- What has been sorted so far, in block g. -/
structure OutAt (w0 : World) (l : List Nat) (g c : Nat) (wx : World) : Prop where
  new : w0.heap.size ≤ g
  lt : g < wx.heap.size
  cap : l.length ≤ c
  cells : ∀ j, j < l.length → wx.cell? ⟨g, j, none⟩ = some (.float .f64 (l.getD j 0))
  below : Below w0.heap.size w0 wx
theorem OutAt.later {w0 wx w1 : World} {l : List Nat} {g c : Nat} (h : OutAt w0 l g c wx) (B : Below wx.heap.size wx w1) : OutAt w0 l g c w1 :=
  ⟨h.new, Nat.lt_of_lt_of_le h.lt B.size, h.cap, fun j hj => (B.cell (p := ⟨g, j, none⟩) h.lt).trans (h.cells j hj), below_on h.below B⟩
theorem RowOf.out {w0 W w1 : World} {v : Value} {n : Nat} {l : List Nat} (h : RowOf W 45 1 v n (flv l) w1) (hn : 0 < n) (B : Below w0.heap.size w0 W) : ∃ g c, v = .slice (some ⟨g, 0, none⟩) n c ∧ OutAt w0 l g c w1 ∧ l.length = n := by
  have hc := @World.ownsRow.cells _ _ _ _ _ _ _ h.own
  have hl : l.length = n := by have := h.own.1; rw [flv_length] at this; omega
  rcases h.own.2 with ⟨_, h0⟩ | ⟨g, cap, cur, rfl, hb, hg, hcap, _⟩
  · omega
  · refine ⟨g, cap, rfl, ⟨Nat.le_trans B.size hb, (Array.getElem?_eq_some_iff.1 hg).1, by omega, fun j hj => ?_, below_on B h.below⟩, hl⟩
    have := hc rfl j (.float .f64 (l.getD j 0)) (by unfold flv; rw [List.getElem?_map, List.getElem?_eq_getElem hj, List.getD_eq_getElem?_getD, List.getElem?_eq_getElem hj]; rfl)
    rw [add_off, Nat.zero_add] at this
    exact this
theorem OutAt.take {w0 wx : World} {l : List Nat} {g c : Nat} (h : OutAt w0 l g c wx) (p : Nat) (hp : p ≤ l.length) : ∀ j u, (flv (l.take p))[j]? = some u → wx.cell? ((⟨g, 0, none⟩ : Addr).add j) = some u := by
  intro j u hu
  obtain ⟨hj, rfl⟩ := flv_get hu
  rw [List.length_take] at hj
  rw [add_off, Nat.zero_add, h.cells j (by omega)]
  rw [List.getD_eq_getElem?_getD, List.getD_eq_getElem?_getD, List.getElem?_take, if_pos (by omega)]
theorem OutAt.drop {w0 wx : World} {l : List Nat} {g c : Nat} (h : OutAt w0 l g c wx) (p : Nat) : ∀ j u, (flv (l.drop p))[j]? = some u → wx.cell? ((⟨g, p, none⟩ : Addr).add j) = some u := by
  intro j u hu
  obtain ⟨hj, rfl⟩ := flv_get hu
  rw [List.length_drop] at hj
  rw [add_off, h.cells (p + j) (by omega)]
  rw [List.getD_eq_getElem?_getD, List.getD_eq_getElem?_getD, List.getElem?_drop]
theorem below_cell {w w1 : World} (B : Below w.heap.size w w1) {p : Addr} {v : Value} (h : w.cell? p = some v) : w1.cell? p = some v := (B.cell (World.block_lt_of_cell? w _ h)).trans h
theorem flv_ins (l : List Nat) (p x : Nat) : flv (insL l p x) = flv (l.take p) ++ Value.float .f64 x :: flv (l.drop p) := by simp [flv, insL]
theorem flv_last (l : List Nat) (x n : Nat) (h : l.length = n) : flv (insL l n x) = flv (l.take n) ++ [Value.float .f64 x] := by
  rw [flv_ins, List.drop_of_length_le (by omega)]; rfl
/-- Sorted so far. -/
def Srt (zs : List Nat) (k : Nat) (out : List Nat) : Prop := out.Perm (zs.take k) ∧ Asc out ∧ out.length = k
theorem Srt.step {zs out : List Nat} {k p x : Nat} (h : Srt zs k out) (hk : k < zs.length) (hx : zs.getD k 0 = x) (hp : p ≤ k) (h1 : ∀ j, p ≤ j → j < k → tk x < tk (out.getD j 0)) (h2 : p = 0 ∨ tk (out.getD (p - 1) 0) ≤ tk x) : Srt zs (k + 1) (insL out p x) := by
  obtain ⟨hP, hA, hL⟩ := h
  refine ⟨?_, insL_asc out p x hA (by omega) (fun j a b => h1 j a (by omega)) h2, by rw [insL_length _ _ _ (by omega)]; omega⟩
  rw [take_snoc_nat zs k hk, hx]
  exact insL_perm _ _ p x hP
set_option linter.unusedVariables false in
set_option maxRecDepth 100000 in
set_option maxHeartbeats 4000000 in
theorem rsort_any (a : Option Addr) (len cap : Nat) (zs : List Nat) (w : World) (hm : len ≤ 200) (hz : Flts w a len zs) : Calls Try.prog 45 #[.slice a len cap] w (SortRet zs len w) := by
  obtain ⟨i0, hi0, hz0, hz1, hz2⟩ := info_parts info45s
  obtain ⟨hlen, hfit, hz⟩ := hz
  have HL := Lib.hid hlen
  have HF := Lib.hid hfit
  have HZ := Lib.hid hz
  clear hlen hfit hz
  go_enter Try.func45, Try.ntmps45
  go_wp2_with fail
  go_loopw [3, 4] (fun v i wx => ∃ (k g c : Nat) (out : List Nat), k ≤ len ∧ Hid (Srt zs k out) ∧ OutAt w out g c wx ∧ v = .slice (some ⟨g, 0, none⟩) k c ∧ i = .int .i64 (k : Int)) (fun _ i _ => len - (intOf i).toNat)
  case atStart => exact ⟨0, w.heap.size, 0, [], by omega, Lib.hid ⟨by simp, Asc.nil, rfl⟩, ⟨Nat.le_refl _, by simp, Nat.le_refl _, fun j hj => by simp at hj, (Below.refl _ _).alloc (Nat.le_refl _) _⟩, rfl, rfl⟩
  case round =>
    obtain ⟨k, g, c, out, hk, HS, HO, rfl, rfl⟩ := hrel
    by_cases hlt : k < len
    · obtain ⟨b, off, ha, hc⟩ := HZ.out.resolve_left (by omega)
      subst ha
      have hkz : k < zs.length := by rw [HL.out]; exact hlt
      obtain ⟨x, hx⟩ : ∃ x, zs.getD k 0 = x := ⟨_, rfl⟩
      have fx : Fit x := by
        rw [← hx, show zs.getD k 0 = zs[k] by simp [hkz]]; exact HF.out _ (List.getElem_mem hkz)
      have gw : w.cell? ⟨b, off + k, none⟩ = some (.float .f64 x) := by rw [← hx]; exact hc k hlt
      have HX := Lib.hid hx
      have HG := Lib.hid gw
      have hkc : k ≤ c := by have := HO.cap; rw [HS.out.2.2] at this; exact this
      clear hc hx gw
      go_wp2_with fail
      go_loopw [5] (fun q wx => ∃ p : Nat, p ≤ k ∧ Hid (∀ j, p ≤ j → j < k → tk x < tk (out.getD j 0)) ∧ OutAt w out g c wx ∧ q = .int .i64 (p : Int)) (fun q _ => (intOf q).toNat)
      case atStart => exact ⟨k, by omega, Lib.hid (fun j h1 h2 => by omega), HO, rfl⟩
      case round =>
        obtain ⟨p, hp, HP, HO2, rfl⟩ := hrel
        have hgw := below_cell HO2.below HG.out
        by_cases hp0 : p = 0
        · have hpn : decide ((0 : Int) < (p : Int)) = false := by rw [decide_eq_false_iff_not]; omega
          have hpn2 : decide (0 < p) = false := by rw [decide_eq_false_iff_not]; omega
          have HN := Lib.hid (HS.out.step hkz HX.out hp HP.out (.inl hp0))
          clear hp0
          go_wp2_with fail
          go_quiet (fail)
          have HO3 := HO2.later (below_drewN wr nq)
          have hgw3 := below_cell HO3.below HG.out
          generalize wr.drewN nq = W at HO3 hgw3 ⊢
          have hRF := RowOf.fresh W 45 1
          have HLK := Lib.hid HS.out.2.2
          go_wp2_with (at_builtin; refine wpList_append_own _ rfl _ _ 51 rfl W.heap.size 45 i0 (.float .f64 0) 1 8 Try.underlying51 hi0 hz0 hz1 hz2 rfl (by decide) _ 0 [] rfl hRF.own ⟨g, 0, none⟩ (p) c (flv (out.take (p))) rfl ?d1 ?d2 ?d3 ?d4 ?d5 ?d6 ?_)
          case d1 => rw [flv_length, List.length_take, HLK.out]; omega
          case d2 => exact (HO3.later hRF.below).take (p) (by rw [HLK.out]; omega)
          case d3 => exact flv_one _
          case d4 => unfold maxLen; omega
          case d5 => omega
          case d6 => exact hRF.below.size
          intro v1 w4 hown1 hgrow1 _
          have hR1 : RowOf W 45 1 v1 (p) (flv (out.take (p))) w4 := ⟨hown1, hRF.below.grown hgrow1 hRF.below.size (fun j hj => (hRF.own.lt j hj).1)⟩
          have gx4 := below_cell hR1.below hgw3
          clear hown1 hgrow1
          go_wp2_with (at_builtin; refine wpList_append_own _ rfl _ _ 51 rfl W.heap.size 45 i0 (.float .f64 0) 1 8 Try.underlying51 hi0 hz0 hz1 hz2 rfl (by decide) _ _ _ rfl (hR1.own.alloc _) ⟨w4.heap.size, 0, none⟩ 1 1 [.float .f64 x] rfl ?d1 ?d2 ?d3 ?d4 ?d5 ?d6 ?_)
          case d1 => rfl
          case d2 =>
            intro j u hj
            match j, hj with
            | 0, hj => simp at hj; subst hj; simp [Addr.add, go_sem]
          case d3 => intro u hu; simp at hu; subst hu; rfl
          case d4 => unfold maxLen; omega
          case d5 => omega
          case d6 => have := hR1.below.size; simp; omega
          intro v2 w5 hown2 hgrow2 _
          have hR2 := hR1.snoc hown2 hgrow2
          clear hown2 hgrow2
          have hO5 := HO3.later hR2.below
          by_cases hcp : c = p
          · have hkp : k = p := by omega
            subst hcp
            subst hkp
            go_wp2_with (at_builtin; refine wpList_append_own _ rfl _ _ 51 rfl W.heap.size 45 i0 (.float .f64 0) 1 8 Try.underlying51 hi0 hz0 hz1 hz2 rfl (by decide) _ _ _ rfl hR2.own _ _ _ [] rfl ?d1 ?d2 ?d3 ?d4 ?d5 ?d6 ?_)
            case d1 => simp
            case d2 => intro j u hj; simp at hj
            case d3 => intro u hu; simp at hu
            case d4 => unfold maxLen; omega
            case d5 => omega
            case d6 => exact hR2.below.size
            intro v3 w6 hown3 hgrow3 _
            have hB6 : Below W.heap.size W w6 := hR2.below.grown hgrow3 hR2.below.size (fun j hj => (hR2.own.lt j hj).1)
            rw [← flv_last out x _ HLK.out] at hown3
            have hR3 : RowOf W 45 1 v3 _ _ w6 := ⟨hown3, hB6⟩
            clear hown3 hgrow3 hB6
            obtain ⟨g3, c3, rfl, hO6, hl6⟩ := hR3.out (by omega) HO3.below
            clear hl6 hR3
            go_wp2_with fail
            go_roundw
            case rel => exact ⟨_, g3, c3, _, by omega, HN, hO6, rfl, by go_num⟩
            case measure => simp [intOf]; omega
          · have hcl : p < c := by omega
            have hcn : (c == p) = false := by rw [beq_eq_false_iff_ne]; omega
            have hpc : p ≤ c := by omega
            go_wp2_with (at_builtin; refine wpList_append_own _ rfl _ _ 51 rfl W.heap.size 45 i0 (.float .f64 0) 1 8 Try.underlying51 hi0 hz0 hz1 hz2 rfl (by decide) _ _ _ rfl hR2.own _ _ _ (flv (out.drop (p))) rfl ?d1 ?d2 ?d3 ?d4 ?d5 ?d6 ?_)
            case d1 => rw [flv_length, List.length_drop, HLK.out]; omega
            case d2 => exact hO5.drop (p)
            case d3 => exact flv_one _
            case d4 => unfold maxLen; omega
            case d5 => omega
            case d6 => exact hR2.below.size
            intro v3 w6 hown3 hgrow3 _
            have hB6 : Below W.heap.size W w6 := hR2.below.grown hgrow3 hR2.below.size (fun j hj => (hR2.own.lt j hj).1)
            have hnn : p + 1 + (k - (p)) = k + 1 := by omega
            rw [hnn, ← flv_ins out (p) x] at hown3
            have hR3 : RowOf W 45 1 v3 (k + 1) _ w6 := ⟨hown3, hB6⟩
            clear hown3 hgrow3 hB6 hnn
            obtain ⟨g3, c3, rfl, hO6, hl6⟩ := hR3.out (by omega) HO3.below
            clear hl6 hR3
            go_wp2_with fail
            go_roundw
            case rel => exact ⟨_, g3, c3, _, by omega, HN, hO6, rfl, by go_num⟩
            case measure => simp [intOf]; omega
        · obtain ⟨q, rfl⟩ : ∃ q, p = q + 1 := ⟨p - 1, by omega⟩
          have hqo : q < out.length := by rw [HS.out.2.2]; omega
          obtain ⟨y, hy⟩ : ∃ y, out.getD q 0 = y := ⟨_, rfl⟩
          have fy : Fit y := by
            rw [← hy, show out.getD q 0 = out[q] by simp [hqo]]
            exact HF.out _ (List.mem_of_mem_take (HS.out.1.mem_iff.1 (List.getElem_mem hqo)))
          have gy : wr.cell? ⟨g, q, none⟩ = some (.float .f64 y) := by rw [← hy]; exact HO2.cells q hqo
          have HY := Lib.hid hy
          have hpp : (0 : Int) < ((q + 1 : Nat) : Int) := by omega
          have q1 : IntKind.i64.wrap ((q : Int) + 1 - 1) = (q : Int) := by rw [IntWalk.i64_in _ (by omega)]; omega
          have q2 : IntKind.i64.wrap (((q + 1 : Nat) : Int) - 1) = (q : Int) := by rw [IntWalk.i64_in _ (by omega)]; omega
          have q3 : IntKind.i64.wrap (q : Int) = (q : Int) := IntWalk.i64_in _ (by omega)
          have hqk : q < k := by omega
          clear hy hp0
          have gxx := hgw
          by_cases hxy : tk x < tk y
          · have HD := Lib.hid (decide_eq_true hxy)
            have HXY := Lib.hid hxy
            clear hxy
            go_wp2_with fail
            go_region_held3 (fun w' => w'.cell? ⟨b, off + k, none⟩ = some (.float .f64 x) ∧ w'.cell? ⟨g, q, none⟩ = some (.float .f64 y))
              (first | exact ⟨gxx, gy⟩ | exact keep2 hb (by assumption))
              ((go_at_call 62; refine (ahead_any x y fx fy _).mono ?_; rintro e w2 ⟨rfl, hb⟩; rw [HD.out]))
            have HO3 := HO2.later (((Below.refl _ wr).drew).trans hb)
            clear hb q1 q2 q3
            go_wp2_with fail
            go_roundw
            case rel =>
              refine ⟨q, by omega, Lib.hid (fun j h1 h2 => ?_), HO3, by first | rfl | go_num⟩
              by_cases hj : j = q
              · rw [hj, HY.out]; exact HXY.out
              · exact HP.out j (by omega) h2
            case measure => simp [intOf]
          · have HD := Lib.hid (decide_eq_false hxy)
            have HN := Lib.hid (HS.out.step (p := q + 1) hkz HX.out hp HP.out (.inr (by rw [Nat.add_sub_cancel, HY.out]; omega)))
            clear hxy
            go_wp2_with fail
            go_region_held3 (fun w' => w'.cell? ⟨b, off + k, none⟩ = some (.float .f64 x) ∧ w'.cell? ⟨g, q, none⟩ = some (.float .f64 y))
              (first | exact ⟨gxx, gy⟩ | exact keep2 hb (by assumption))
              ((go_at_call 62; refine (ahead_any x y fx fy _).mono ?_; rintro e w2 ⟨rfl, hb⟩; rw [HD.out]))
            have HO3 := HO2.later (((Below.refl _ wr).drew).trans hb)
            have hgw3 := below_cell HO3.below HG.out
            clear hb q1 q2 q3 gxx gy
            generalize w2 = W at HO3 hgw3 ⊢
            have hRF := RowOf.fresh W 45 1
            have HLK := Lib.hid HS.out.2.2
            go_wp2_with (at_builtin; refine wpList_append_own _ rfl _ _ 51 rfl W.heap.size 45 i0 (.float .f64 0) 1 8 Try.underlying51 hi0 hz0 hz1 hz2 rfl (by decide) _ 0 [] rfl hRF.own ⟨g, 0, none⟩ (q + 1) c (flv (out.take (q + 1))) rfl ?d1 ?d2 ?d3 ?d4 ?d5 ?d6 ?_)
            case d1 => rw [flv_length, List.length_take, HLK.out]; omega
            case d2 => exact (HO3.later hRF.below).take (q + 1) (by rw [HLK.out]; omega)
            case d3 => exact flv_one _
            case d4 => unfold maxLen; omega
            case d5 => omega
            case d6 => exact hRF.below.size
            intro v1 w4 hown1 hgrow1 _
            have hR1 : RowOf W 45 1 v1 (q + 1) (flv (out.take (q + 1))) w4 := ⟨hown1, hRF.below.grown hgrow1 hRF.below.size (fun j hj => (hRF.own.lt j hj).1)⟩
            have gx4 := below_cell hR1.below hgw3
            clear hown1 hgrow1
            go_wp2_with (at_builtin; refine wpList_append_own _ rfl _ _ 51 rfl W.heap.size 45 i0 (.float .f64 0) 1 8 Try.underlying51 hi0 hz0 hz1 hz2 rfl (by decide) _ _ _ rfl (hR1.own.alloc _) ⟨w4.heap.size, 0, none⟩ 1 1 [.float .f64 x] rfl ?d1 ?d2 ?d3 ?d4 ?d5 ?d6 ?_)
            case d1 => rfl
            case d2 =>
              intro j u hj
              match j, hj with
              | 0, hj => simp at hj; subst hj; simp [Addr.add, go_sem]
            case d3 => intro u hu; simp at hu; subst hu; rfl
            case d4 => unfold maxLen; omega
            case d5 => omega
            case d6 => have := hR1.below.size; simp; omega
            intro v2 w5 hown2 hgrow2 _
            have hR2 := hR1.snoc hown2 hgrow2
            clear hown2 hgrow2
            have hO5 := HO3.later hR2.below
            by_cases hcp : c = q + 1
            · have hkp : k = q + 1 := by omega
              subst hcp
              subst hkp
              go_wp2_with (at_builtin; refine wpList_append_own _ rfl _ _ 51 rfl W.heap.size 45 i0 (.float .f64 0) 1 8 Try.underlying51 hi0 hz0 hz1 hz2 rfl (by decide) _ _ _ rfl hR2.own _ _ _ [] rfl ?d1 ?d2 ?d3 ?d4 ?d5 ?d6 ?_)
              case d1 => simp
              case d2 => intro j u hj; simp at hj
              case d3 => intro u hu; simp at hu
              case d4 => unfold maxLen; omega
              case d5 => omega
              case d6 => exact hR2.below.size
              intro v3 w6 hown3 hgrow3 _
              have hB6 : Below W.heap.size W w6 := hR2.below.grown hgrow3 hR2.below.size (fun j hj => (hR2.own.lt j hj).1)
              rw [← flv_last out x _ HLK.out] at hown3
              have hR3 : RowOf W 45 1 v3 _ _ w6 := ⟨hown3, hB6⟩
              clear hown3 hgrow3 hB6
              obtain ⟨g3, c3, rfl, hO6, hl6⟩ := hR3.out (by omega) HO3.below
              clear hl6 hR3
              go_wp2_with fail
              go_roundw
              case rel => exact ⟨_, g3, c3, _, by omega, HN, hO6, rfl, by go_num⟩
              case measure => simp [intOf]; omega
            · have hcl : q + 1 < c := by omega
              have hcn : (c == q + 1) = false := by rw [beq_eq_false_iff_ne]; omega
              have hpc : q + 1 ≤ c := by omega
              go_wp2_with (at_builtin; refine wpList_append_own _ rfl _ _ 51 rfl W.heap.size 45 i0 (.float .f64 0) 1 8 Try.underlying51 hi0 hz0 hz1 hz2 rfl (by decide) _ _ _ rfl hR2.own _ _ _ (flv (out.drop (q + 1))) rfl ?d1 ?d2 ?d3 ?d4 ?d5 ?d6 ?_)
              case d1 => rw [flv_length, List.length_drop, HLK.out]; omega
              case d2 => exact hO5.drop (q + 1)
              case d3 => exact flv_one _
              case d4 => unfold maxLen; omega
              case d5 => omega
              case d6 => exact hR2.below.size
              intro v3 w6 hown3 hgrow3 _
              have hB6 : Below W.heap.size W w6 := hR2.below.grown hgrow3 hR2.below.size (fun j hj => (hR2.own.lt j hj).1)
              have hnn : q + 1 + 1 + (k - (q + 1)) = k + 1 := by omega
              rw [hnn, ← flv_ins out (q + 1) x] at hown3
              have hR3 : RowOf W 45 1 v3 (k + 1) _ w6 := ⟨hown3, hB6⟩
              clear hown3 hgrow3 hB6 hnn
              obtain ⟨g3, c3, rfl, hO6, hl6⟩ := hR3.out (by omega) HO3.below
              clear hl6 hR3
              go_wp2_with fail
              go_roundw
              case rel => exact ⟨_, g3, c3, _, by omega, HN, hO6, rfl, by go_num⟩
              case measure => simp [intOf]; omega
    · obtain rfl : k = len := by omega
      have hS := HS.out
      unfold Srt at hS
      rw [List.take_of_length_le (by rw [HL.out]; exact Nat.le_refl _)] at hS
      have HS2 := Lib.hid hS
      clear hS
      go_wp2_with fail
      go_ret
      obtain ⟨hP, hA, hl⟩ := HS2.out
      exact ⟨_, _, out, rfl, ⟨hl, fun z hz => HF.out z (hP.mem_iff.1 hz), .inr ⟨g, 0, rfl, fun j hj => by rw [Nat.zero_add]; exact HO.cells j (by rw [hl]; exact hj)⟩⟩, hP, fun i j h1 h2 => hA.get i j h1 (by rw [hl]; exact h2), HO.below⟩
end Go.Proofs.Ytmhfbgcfagfmbaa

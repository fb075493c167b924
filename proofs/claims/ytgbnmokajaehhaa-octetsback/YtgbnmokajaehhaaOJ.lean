/- OctetsBack: the walk. -/
import Derived.Test.YtgbnmokajaehhaaOI
namespace Go.Proofs.Ytgbnmokajaehhaa
open Go.RowKit
set_option linter.unusedVariables false
theorem Strs.at {w : World} {a : Option Addr} {n : Nat} {ps : List ByteArray} (h : Strs w a n ps) {k : Nat} (hk : k < n) : ∃ b off, a = some ⟨b, off, none⟩ ∧ w.cell? ⟨b, off + k, none⟩ = some (.string (ps.getD k ByteArray.empty)) := by
  rcases h.2 with h0 | ⟨b, off, ha, hc⟩
  · omega
  · exact ⟨b, off, ha, hc k hk⟩
theorem Nums.below {w w1 : World} {a : Option Addr} {n : Nat} {ns : List Nat} (h : Nums w a n ns) (B : Below w.heap.size w w1) : Nums w1 a n ns := by
  refine ⟨h.1, h.2.1, ?_⟩
  rcases h.2.2 with h0 | ⟨b, off, ha, hc⟩
  · exact .inl h0
  · exact .inr ⟨b, off, ha, fun j hj => (B.cell (p := ⟨b, off + j, none⟩) (World.block_lt_of_cell? w _ (hc j hj))).trans (hc j hj)⟩
theorem Nums.at {w : World} {a : Option Addr} {n : Nat} {ns : List Nat} (h : Nums w a n ns) {k : Nat} (hk : k < n) : ∃ b off x, a = some ⟨b, off, none⟩ ∧ w.cell? ⟨b, off + k, none⟩ = some (.int .u64 (x : Nat)) ∧ ns.getD k 0 = x ∧ x < 18446744073709551616 := by
  rcases h.2.2 with h0 | ⟨b, off, ha, hc⟩
  · omega
  · have hk' : k < ns.length := by rw [h.1]; exact hk
    exact ⟨b, off, _, ha, hc k hk, rfl, h.2.1 _ (by rw [show ns.getD k 0 = ns[k] by simp [hk']]; exact List.getElem_mem hk')⟩
theorem num_lit (m n : Nat) (t : ByteArray) (M : Int) (hM : M = m) (h : bs (numL m n) = t) (w : World) (h1 : 1 ≤ m) (h2 : m ≤ 8) (hn : n < 18446744073709551616) :
    Calls Try.prog 17 #[.int .i64 M, .int .u64 (n : Int)] w fun e w' => e = .returned (.string t) ∧ Below w.heap.size w w' := by
  subst h hM; exact num_ok m n w h1 h2 hn
theorem rnum_lit2 (b : Nat) (N : Int) (n : Nat) (hN : N = (n : Int)) (s : ByteArray) (e : Int) (t : ByteArray) (y : Int) (o : Nat) (h : numS s e (n : Int) = (t, y, o)) (w : World) (hr : Rd w b s e) (hw : RWf s e) (hs : s.size ≤ maxLen) :
    Calls Try.prog 30 #[.pointer (some ⟨b, 0, none⟩), .int .i64 N] w (Reads b w t y (.int .u64 (o : Int))) := by
  subst hN; exact rnum_lit b n s e t y o h w hr hw hs
theorem raw_lit (b : Nat) (n : Int) (s : ByteArray) (e : Int) (t : ByteArray) (y : Int) (o : ByteArray) (h : rawS s e n = (t, y, o)) (w : World) (hr : Rd w b s e) (hw : RWf s e) (hs : s.size ≤ maxLen) :
    Calls Try.prog 34 #[.pointer (some ⟨b, 0, none⟩), .int .i64 n] w (Reads b w t y (.string o)) := by
  have := raw_any b n s e w hr hw hs
  rwa [h] at this
theorem ofRise_lit (s : ByteArray) (n : Nat) (hs : s.size = 8) (hn : ofL s.data.toList = n) (w : World) : Calls Try.prog 14 #[.string s] w fun e w' => e = .returned (.tuple #[.int .u64 (n : Int), .int .i64 0]) ∧ w = w' := by
  subst hn; exact ofRise_ok s w hs
theorem end_lit (b : Nat) (s : ByteArray) (e z : Int) (h : endF s e = z) (w : World) (hr : Rd w b s e) : Calls Try.prog 37 #[.pointer (some ⟨b, 0, none⟩)] w fun x w' => x = .returned (.int .i64 z) ∧ w = w' := by
  subst h; exact end_any b s e w hr
theorem pow_facts (m : Nat) (h : m % 8 < 7) (n x : Nat) (hx : n % 256 ^ (m % 8 + 1) = x) : ∃ M : Nat, 0 < (M : Int) ∧ IntKind.u64.wrap (2 ^ (8 * (m % 8 + 1))) = (M : Int) ∧ (x : Int) = (n : Int) % (M : Int) := by
  refine ⟨256 ^ (m % 8 + 1), ?_, ?_, ?_⟩
  · have : 0 < 256 ^ (m % 8 + 1) := Nat.pow_pos (by omega)
    omega
  · have hd : m % 8 = 0 ∨ m % 8 = 1 ∨ m % 8 = 2 ∨ m % 8 = 3 ∨ m % 8 = 4 ∨ m % 8 = 5 ∨ m % 8 = 6 := by omega
    rcases hd with hd | hd | hd | hd | hd | hd | hd <;> rw [hd] <;> decide
  · rw [← hx]; simp
theorem cutB_len (m : Nat) (s : ByteArray) : (cutB m s).length ≤ s.size := by
  have hC : CutAt m s ByteArray.empty (cutB m s) := ⟨0, by decide, by
    unfold cutB
    rw [List.map_map]
    have : ((fun x : ByteArray => x.data.toList) ∘ bs) = id := by funext x; exact bs_toList x
    rw [this, List.map_id]; simp [chunksF]⟩
  exact hC.len
/-- The whole of the first parts. -/
def WholeAt (m : Nat) (q : ByteArray) (j : Nat) (v : ByteArray) : Prop := v.data.toList = (((cutB m q).take j).map (·.data.toList)).flatten
theorem WholeAt.next {m : Nat} {q : ByteArray} {j : Nat} {v p : ByteArray} (h : WholeAt m q j v) (hm : 1 ≤ m) (hj : j < (cutB m q).length) (hp : (cutB m q).getD j ByteArray.empty = p) : WholeAt m q (j + 1) (v ++ p) := by
  unfold WholeAt at h ⊢
  rw [take_snoc_str _ j hj, hp, toList_append, h]
  simp
theorem WholeAt.size {m : Nat} {q : ByteArray} {j : Nat} {v : ByteArray} (h : WholeAt m q j v) (hm : 1 ≤ m) : v.size ≤ q.size := by
  have e := cut_join m q hm
  have e2 : ((cutB m q).map (·.data.toList)).flatten = (((cutB m q).take j).map (·.data.toList)).flatten ++ (((cutB m q).drop j).map (·.data.toList)).flatten := by
    rw [← List.flatten_append, ← List.map_append, List.take_append_drop]
  rw [e2, ← h] at e
  rw [blen q, ← e, List.length_append, ← blen]
  omega
theorem WholeAt.done {m : Nat} {q : ByteArray} {j : Nat} {v : ByteArray} (h : WholeAt m q j v) (hm : 1 ≤ m) (hj : (cutB m q).length ≤ j) : v = q := by
  unfold WholeAt at h
  rw [List.take_of_length_le hj, cut_join m q hm] at h
  exact ByteArray.ext (Array.toList_inj.1 h)
theorem text_lit2 (s t : ByteArray) (h : textB s = t) (w : World) (hs : s.size ≤ 4096) : Calls Try.prog 12 #[.string s] w fun e w' => e = .returned (.tuple #[.string t, .int .i64 0]) ∧ Below w.heap.size w w' := text_lit s t h w (by omega)
set_option maxRecDepth 100000 in
set_option maxHeartbeats 8000000 in
theorem octetsBack_near (a : Option Addr) (len cap : Nat) (ps : List ByteArray) (c : Option Addr) (len2 cap2 : Nat) (ns : List Nat) (each : Int) (w : World) (hl : len ≤ 40) (hl2 : len2 ≤ 40) (he : each ≤ 9223372036854775807)
    (hz : Strs w a len ps) (hn : Nums w c len2 ns) :
    Calls Try.prog 5 #[.slice a len cap, .slice c len2 cap2, .int .i64 each] w fun e w' => e = .returned (.bool true) ∧ Below w.heap.size w w' := by
  have HZ := Lib.hid hz
  have HN := Lib.hid hn
  have HL := Lib.hid hz.1
  have HL2 := Lib.hid hn.1
  clear hz hn
  go_enter Try.func5, Try.ntmps5
  go_wp2_with fail
  refine (lives3 _).mono ?_
  rintro e w1 ⟨rfl, B1⟩
  go_wp2_with fail
  go_loopw [7, 41] (fun t i wx => ∃ (k : Nat) (q : ByteArray), k ≤ len ∧ q.size ≤ k * 4098 ∧ Hid (TxtAt ps k q) ∧ Below w.heap.size w wx ∧ i = .int .i64 (k : Int) ∧ t = .string q) (fun _ i _ => len - (intOf i).toNat)
  case atStart => exact ⟨0, ByteArray.empty, by omega, by decide, Lib.hid ⟨rfl, by simp⟩, B1, rfl, rfl⟩
  case round =>
    obtain ⟨k, q, hk, hq, HT, BB, rfl, rfl⟩ := hrel
    by_cases hlt : k < len
    · obtain ⟨b, off, rfl, hc⟩ := (HZ.out.below BB).at hlt
      obtain ⟨p, hp⟩ : ∃ p, ps.getD k ByteArray.empty = p := ⟨_, rfl⟩
      rw [hp] at hc
      have HP := Lib.hid hp
      clear hp
      by_cases hs : p.size ≤ 4096
      · obtain ⟨t, ht⟩ : ∃ t, textB p = t := ⟨_, rfl⟩
        have hts : t.size = 2 + p.size := by rw [← ht]; unfold textB; rw [ByteArray.size_append, bs_size, numL_length]
        have hts2 : t.size ≤ 4098 := by omega
        have HTN := Lib.hid (HT.out.next (by rw [HL.out]; exact hlt) HP.out hs)
        rw [ht] at HTN
        have HTX := Lib.hid ht
        have HTS := Lib.hid hts
        clear ht hts
        go_wp2_with fail
        refine (text_lit2 p t HTX.out _ hs).mono ?_
        rintro e w2 ⟨rfl, hb⟩
        have B2 := below_to BB hb
        clear hb hc BB
        go_wp2_with fail
        go_roundw
        case rel => exact ⟨k + 1, q ++ t, by omega, by rw [ByteArray.size_append]; omega, HTN, B2, by go_num, rfl⟩
        case measure => simp [intOf]; omega
      · go_wp2_with fail
        go_ret
        exact ⟨rfl, BB⟩
    · have HT1 := Lib.hid (show NumAt ps ns 0 q by
        have := HT.out.1
        rw [List.take_of_length_le (by rw [HL.out]; omega)] at this
        unfold NumAt; rw [this]; simp [encN])
      have HS := Lib.hid (show ∀ p ∈ ps, p.size ≤ 4096 by
        have := HT.out.2
        rwa [List.take_of_length_le (by rw [HL.out]; omega)] at this)
      have hq2 : q.size ≤ 163920 := by omega
      clear HT hq
      go_wp2_with fail
      go_loopw [7, 61] (fun t i wx => ∃ (j : Nat) (q : ByteArray), j ≤ len2 ∧ q.size ≤ 163920 + j * 24 ∧ Hid (NumAt ps ns j q) ∧ Below w.heap.size w wx ∧ i = .int .i64 (j : Int) ∧ t = .string q) (fun _ i _ => len2 - (intOf i).toNat)
      case atStart => exact ⟨0, q, by omega, by omega, HT1, BB, rfl, rfl⟩
      case round =>
        obtain ⟨j, q, hj, hq, HT, BB, rfl, rfl⟩ := hrel
        clear HT1
        by_cases hlt2 : j < len2
        · obtain ⟨b, off, n, rfl, hc, hnx, hn⟩ := (HN.out.below BB).at hlt2
          obtain ⟨f, hf⟩ : ∃ f, n + f = 18446744073709551615 := ⟨18446744073709551615 - n, by omega⟩
          have HTN := Lib.hid (HT.out.next (by rw [HL2.out]; exact hlt2) hnx hf)
          obtain ⟨x, hx⟩ : ∃ x, bs (numL (j % 8 + 1) n) = x := ⟨_, rfl⟩
          obtain ⟨y, hy⟩ : ∃ x, bs (numL 8 n) = x := ⟨_, rfl⟩
          obtain ⟨z, hz⟩ : ∃ x, bs (numL 8 f) = x := ⟨_, rfl⟩
          rw [hx, hy, hz] at HTN
          have hxs : x.size ≤ 8 := by rw [← hx, bs_size, numL_length]; omega
          have hys : y.size ≤ 8 := by rw [← hy, bs_size, numL_length]; omega
          have hzs : z.size ≤ 8 := by rw [← hz, bs_size, numL_length]; omega
          have HX := Lib.hid hx
          have HY := Lib.hid hy
          have HZ' := Lib.hid hz
          have HF := Lib.hid hf
          have HNX := Lib.hid hnx
          clear hx hy hz hf hnx
          go_wp2_with fail
          refine (num_lit (j % 8 + 1) n x _ (by omega) HX.out _ (by omega) (by omega) hn).mono ?_
          rintro e w3 ⟨rfl, hb⟩
          have B3 := below_to BB hb
          clear hb hc BB
          go_wp2_with fail
          refine (rise_lit n y HY.out _ hn).mono ?_
          rintro e w4 ⟨rfl, hb⟩
          have B4 := below_to B3 hb
          clear hb
          go_wp2_with fail
          refine (fall_lit n f z HZ'.out _ hn HF.out).mono ?_
          rintro e w5 ⟨rfl, hb⟩
          have B5 := below_to B4 hb
          clear hb
          go_wp2_with fail
          go_roundw
          case rel => exact ⟨j + 1, q ++ (x ++ y ++ z), by omega, by rw [ByteArray.size_append, ByteArray.size_append, ByteArray.size_append]; omega, HTN, B5, by go_num, rfl⟩
          case measure => simp [intOf]; omega
        · have hqs : q.size ≤ 164880 := by omega
          have HA := Lib.hid (show TxtLeft ps ns 0 q by
            have := HT.out
            unfold NumAt at this
            rw [List.take_of_length_le (by rw [HL2.out]; omega)] at this
            exact this)
          clear HT hq
          go_wp2_with fail
          refine (open_any _ _).mono ?_
          rintro e w6 ⟨rfl, R6, hb, hsz⟩
          have B6 := below_to BB hb
          have hlo := BB.size
          clear hb hsz
          obtain ⟨wo, rfl⟩ : ∃ wo : World, wo = wr := ⟨_, rfl⟩
          go_wp2_with fail
          go_loopw [86] (fun i wx => ∃ (m : Nat) (u : ByteArray), m ≤ len ∧ u.size ≤ 164880 ∧ Hid (TxtLeft ps ns m u) ∧ Rd wx wo.heap.size u 0 ∧ Below w.heap.size w wx ∧ i = .int .i64 (m : Int)) (fun i _ => len - (intOf i).toNat)
          case atStart => exact ⟨0, q, by omega, hqs, HA, R6, B6, rfl⟩
          case round =>
            obtain ⟨m, u, hm, hu, HU, hR, BU, rfl⟩ := hrel
            clear HA R6 B6
            by_cases hlt3 : m < len
            · obtain ⟨b, off, rfl, hc⟩ := (HZ.out.below BU).at hlt3
              obtain ⟨p, hp⟩ : ∃ p, ps.getD m ByteArray.empty = p := ⟨_, rfl⟩
              rw [hp] at hc
              have hml : m < ps.length := by rw [HL.out]; exact hlt3
              have hps : p.size ≤ 4096 := HS.out p (by rw [← hp, show ps.getD m ByteArray.empty = ps[m] by simp [hml]]; exact List.getElem_mem hml)
              obtain ⟨u', hu', HU'⟩ := HU.out.step hml hp hps
              have hle := textS_le u 0 4096
              rw [hu'] at hle
              have hle2 : u'.size ≤ 164880 := Nat.le_trans hle hu
              have HT' := Lib.hid hu'
              have HU2 := Lib.hid HU'
              have HP := Lib.hid hp
              clear hp hu' HU' hle hml
              go_wp2_with fail
              refine (rtext_lit _ _ _ _ _ _ _ HT'.out _ hR (.inl rfl) (Nat.le_trans hu (by decide))).mono ?_
              rintro e w7 ⟨rfl, R7, o7⟩
              have B7 := o7.below BU hlo (Nat.le_trans hlo (Nat.le_of_lt hR.lt))
              clear o7 hR BU hc
              go_wp2_with fail
              go_roundw
              case rel => exact ⟨m + 1, u', by omega, hle2, HU2, R7, B7, by go_num⟩
              case measure => simp [intOf]; omega
            · have HV := Lib.hid (show NumLeft ns 0 u by
                have := HU.out
                unfold TxtLeft at this
                rw [List.drop_of_length_le (by rw [HL.out]; omega)] at this
                exact this)
              clear HU
              go_wp2_with fail
              go_loopw [97] (fun i wx => ∃ (m : Nat) (u : ByteArray), m ≤ len2 ∧ u.size ≤ 164880 ∧ Hid (NumLeft ns m u) ∧ Rd wx wo.heap.size u 0 ∧ Below w.heap.size w wx ∧ i = .int .i64 (m : Int)) (fun i _ => len2 - (intOf i).toNat)
              case atStart => exact ⟨0, u, by omega, hu, HV, hR, BU, rfl⟩
              case round =>
                obtain ⟨m, u, hm, hu, HU, hR, BU, rfl⟩ := hrel
                clear HV
                by_cases hlt4 : m < len2
                · obtain ⟨b, off, n, rfl, hc, hnx, hn⟩ := (HN.out.below BU).at hlt4
                  obtain ⟨f, hf⟩ : ∃ f, n + f = 18446744073709551615 := ⟨18446744073709551615 - n, by omega⟩
                  obtain ⟨q1, q2, q3, g1, g2, g3, g4, l1, l2, l3⟩ := HU.out.step (by rw [HL2.out]; exact hlt4) hnx hf
                  obtain ⟨x, hx⟩ : ∃ x, n % 256 ^ (m % 8 + 1) = x := ⟨_, rfl⟩
                  rw [hx] at g1
                  obtain ⟨y, hy⟩ : ∃ x, bs (numL 8 n) = x := ⟨_, rfl⟩
                  obtain ⟨z, hz⟩ : ∃ x, bs (numL 8 f) = x := ⟨_, rfl⟩
                  rw [hy] at g2
                  rw [hz] at g3
                  have y8 : y.size = 8 := by rw [← hy, bs_size, numL_length]
                  have z8 : z.size = 8 := by rw [← hz, bs_size, numL_length]
                  have yn : ofL y.data.toList = n := by rw [← hy, bs_toList, ofL_num8 n hn]
                  have zf : ofL z.data.toList = f := by rw [← hz, bs_toList, ofL_num8 f (by omega)]
                  have G1 := Lib.hid g1
                  have G2 := Lib.hid g2
                  have G3 := Lib.hid g3
                  have G4 := Lib.hid g4
                  have HX := Lib.hid hx
                  have HF := Lib.hid hf
                  have Y8 := Lib.hid y8
                  have Z8 := Lib.hid z8
                  have YN := Lib.hid yn
                  have ZF := Lib.hid zf
                  clear g1 g2 g3 g4 hx hy hz hnx hf y8 z8 yn zf
                  have mx : ∀ v : ByteArray, v.size ≤ u.size → v.size ≤ maxLen := fun v hv => Nat.le_trans (Nat.le_trans hv hu) (by decide)
                  have MX := Lib.hid mx
                  clear mx
                  go_wp2_with fail
                  refine (rnum_lit2 _ _ (m % 8 + 1) (by omega) _ _ _ _ _ G1.out _ hR (.inl rfl) (MX.out _ (Nat.le_refl _))).mono ?_
                  rintro e w8 ⟨rfl, R8, o8⟩
                  have B8 := o8.below BU hlo (Nat.le_trans hlo (Nat.le_of_lt hR.lt))
                  clear o8 hR BU hc
                  go_wp2_with fail
                  refine (raw_lit _ _ _ _ _ _ _ G2.out _ R8 (.inl rfl) (MX.out _ l1)).mono ?_
                  rintro e w9 ⟨rfl, R9, o9⟩
                  have B9 := o9.below B8 hlo (Nat.le_trans hlo (Nat.le_of_lt R8.lt))
                  clear o9 R8 B8
                  go_wp2_with fail
                  refine (ofRise_lit y n Y8.out YN.out _).mono ?_
                  rintro e w' ⟨rfl, rfl⟩
                  go_wp2_with fail
                  refine (raw_lit _ _ _ _ _ _ _ G3.out _ R9 (.inl rfl) (MX.out _ l2)).mono ?_
                  rintro e wA ⟨rfl, RA, oA⟩
                  have BA := oA.below B9 hlo (Nat.le_trans hlo (Nat.le_of_lt R9.lt))
                  clear oA R9 B9
                  go_wp2_with fail
                  refine (ofFall_lit z f n _ Z8.out ZF.out (by have := HF.out; omega)).mono ?_
                  rintro e w' ⟨rfl, rfl⟩
                  by_cases h7 : m % 8 < 7
                  · have h7z : (m : Int) % 8 + 1 < 8 := by omega
                    have h7n : ¬ (m : Int) % 8 + 1 = 8 := by omega
                    obtain ⟨M, hM0, hMw, hMx⟩ := pow_facts m h7 n x HX.out
                    go_wp2_with fail
                    go_roundw
                    case rel => exact ⟨m + 1, q3, by omega, Nat.le_trans l3 hu, G4, RA, BA, by go_num⟩
                    case measure => simp [intOf]; omega
                  · have h7z : ¬ (m : Int) % 8 + 1 < 8 := by omega
                    have h7n : (m : Int) % 8 + 1 = 8 := by omega
                    have hMx : (x : Int) = (n : Int) := by
                      have := HX.out
                      rw [show m % 8 + 1 = 8 by omega] at this
                      have h2 : n % 256 ^ 8 = n := Nat.mod_eq_of_lt hn
                      omega
                    go_wp2_with fail
                    go_roundw
                    case rel => exact ⟨m + 1, q3, by omega, Nat.le_trans l3 hu, G4, RA, BA, by go_num⟩
                    case measure => simp [intOf]; omega
                · have HD := Lib.hid (HU.out.done (by rw [HL2.out]; omega))
                  have HEND := Lib.hid (show endF u 0 = 0 by unfold endF; rw [if_pos rfl, HD.out]; rfl)
                  clear HU
                  go_wp2_with fail
                  refine (end_lit _ _ _ _ HEND.out _ hR).mono ?_
                  rintro e w' ⟨rfl, rfl⟩
                  clear hR
                  by_cases h1 : each < 1
                  · go_wp2_with fail
                    refine (cut_no q each _ h1).mono ?_
                    rintro e w' ⟨rfl, rfl⟩
                    go_wp2_with fail
                    go_loop [25, 167] (fun t i => t = .string ByteArray.empty ∧ i = .int .i64 0) (fun _ _ => 0)
                    case atStart => exact ⟨rfl, rfl⟩
                    case round =>
                      obtain ⟨rfl, rfl⟩ := hrel
                      go_wp2_with fail
                      go_ret
                      exact ⟨rfl, BU⟩
                  · obtain ⟨d, rfl⟩ := Int.eq_ofNat_of_zero_le (show 0 ≤ each by omega)
                    have hd1 : 1 ≤ d := by omega
                    go_wp2_with fail
                    refine (cut_any q d _ (by omega) hd1 (by omega)).mono ?_
                    rintro e wD ⟨vv, rfl, hS⟩
                    obtain ⟨aD, cD, rfl, hcD, hSS⟩ := hS.strs
                    have BD := below_to BU hS.below
                    have HSS := Lib.hid hSS
                    obtain ⟨nD, hnD⟩ : ∃ nD, (cutB d q).length = nD := ⟨_, rfl⟩
                    rw [hnD] at HSS hcD ⊢
                    have hnq : nD ≤ 164880 := by
                      have h := cutB_len d q
                      omega
                    have HND := Lib.hid hnD
                    clear hS hSS hnD BU
                    go_wp2_with fail
                    go_loop [25, 167] (fun t i => ∃ (j : Nat) (v : ByteArray), j ≤ nD ∧ v.size ≤ 164880 ∧ Hid (WholeAt d q j v) ∧ i = .int .i64 (j : Int) ∧ t = .string v) (fun _ i => nD - (intOf i).toNat)
                    case atStart => exact ⟨0, ByteArray.empty, by omega, by decide, Lib.hid rfl, rfl, rfl⟩
                    case round =>
                      obtain ⟨j, v, hj, hv, HW, rfl, rfl⟩ := hrel
                      by_cases hlt5 : j < nD
                      · obtain ⟨b, off, rfl, hc⟩ := HSS.out.at hlt5
                        obtain ⟨p, hp⟩ : ∃ p, (cutB d q).getD j ByteArray.empty = p := ⟨_, rfl⟩
                        rw [hp] at hc
                        obtain ⟨p1, p2, p3⟩ := cut_sizes d q hd1 j (by rw [HND.out]; exact hlt5)
                        rw [hp] at p1 p2 p3
                        rw [HND.out] at p3
                        have HW' := HW.out.next hd1 (by rw [HND.out]; exact hlt5) hp
                        have hvs := HW'.size hd1
                        have HW2 := Lib.hid HW'
                        have HP := Lib.hid hp
                        have hpq : p.size ≤ 164880 := by rw [ByteArray.size_append] at hvs; omega
                        have hvs2 : (v ++ p).size ≤ 164880 := by omega
                        have HVS := Lib.hid hvs2
                        clear hp HW' hvs hvs2
                        have d1 : ((p.size : Int) == 0) = false := by rw [beq_eq_false_iff_ne]; omega
                        have d2 : ¬ (d : Int) < (p.size : Int) := by omega
                        by_cases hl5 : j + 1 < nD
                        · have d3 : (p.size : Int) = (d : Int) := by have := p3 hl5; omega
                          have d4 : (j : Int) + 1 < (nD : Int) := by omega
                          have D5 := Lib.hid (show p.size = d by omega)
                          clear p3
                          go_wp2_with fail
                          go_round
                          case rel => exact ⟨j + 1, v ++ p, by omega, HVS.out, HW2, by go_num, rfl⟩
                          case measure => simp [intOf]; omega
                        · have d4 : ¬ (j : Int) + 1 < (nD : Int) := by omega
                          clear p3
                          go_wp2_with fail
                          go_round
                          case rel => exact ⟨j + 1, v ++ p, by omega, HVS.out, HW2, by go_num, rfl⟩
                          case measure => simp [intOf]; omega
                      · have hE := HW.out.done hd1 (by rw [HND.out]; omega)
                        subst hE
                        go_wp2_with fail
                        go_ret
                        exact ⟨rfl, BD⟩
set_option maxRecDepth 100000 in
theorem octetsBack_far (a : Option Addr) (len cap : Nat) (c : Option Addr) (len2 cap2 : Nat) (each : Int) (w : World) (hl : len ≤ 9223372036854775807) (hl2 : len2 ≤ 9223372036854775807) (h : 40 < len ∨ 40 < len2) :
    Calls Try.prog 5 #[.slice a len cap, .slice c len2 cap2, .int .i64 each] w fun e w' => e = .returned (.bool true) ∧ Below w.heap.size w w' := by
  by_cases h1 : 40 < len
  · clear h
    go_enter Try.func5, Try.ntmps5
    go_wp2_with (go_at_call 11; refine (lives3 _).mono ?_; rintro e w1 ⟨rfl, B1⟩)
    go_ret
    exact ⟨rfl, B1⟩
  · have h2 : 40 < len2 := by omega
    clear h
    go_enter Try.func5, Try.ntmps5
    go_wp2_with (go_at_call 11; refine (lives3 _).mono ?_; rintro e w1 ⟨rfl, B1⟩)
    go_ret
    exact ⟨rfl, B1⟩
theorem octetsBack_walk (a : Option Addr) (len cap : Nat) (ps : List ByteArray) (c : Option Addr) (len2 cap2 : Nat) (ns : List Nat) (each : Int) (w : World) (hl : len ≤ 9223372036854775807) (hl2 : len2 ≤ 9223372036854775807) (he : each ≤ 9223372036854775807)
    (hz : Strs w a len ps) (hn : Nums w c len2 ns) :
    Calls Try.prog 5 #[.slice a len cap, .slice c len2 cap2, .int .i64 each] w fun e w' => e = .returned (.bool true) ∧ Below w.heap.size w w' := by
  by_cases h1 : len ≤ 40
  · by_cases h2 : len2 ≤ 40
    · exact octetsBack_near a len cap ps c len2 cap2 ns each w h1 h2 he hz hn
    · exact octetsBack_far a len cap c len2 cap2 each w hl hl2 (.inr (by omega))
  · exact octetsBack_far a len cap c len2 cap2 each w hl hl2 (.inl (by omega))
end Go.Proofs.Ytgbnmokajaehhaa

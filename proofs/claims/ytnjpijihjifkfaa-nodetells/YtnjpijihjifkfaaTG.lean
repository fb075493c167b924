/- Contracts: half, Put. -/
import Derived.Test.YtnjpijihjifkfaaTF
import Derived.Laws.CopyRow
namespace Go.Proofs.Ytnjpijihjifkfaa
open Go.RowKit
set_option linter.unusedVariables false
/-- copy, of elements of k cells. -/
theorem run_copyk {P : Program} (w : World) (dT sT ty elem : TypeId) (g o dLen dCap : Nat) (a : Addr) (sLen sCap : Nat) (cur : Array Value) (t : TypeId) (cs : List Value) (k n : Nat)
    (hu : P.underlying dT = some (.slice elem)) (hs : (P.info? elem).map (·.size) = some k)
    (hg : w.heap[g]? = some (.cells cur t (0, 0))) (hn : Nat.min sLen dLen = n) (hl : cs.length = n * k)
    (hsrc : ∀ j v, cs[j]? = some v → w.cell? (a.add j) = some v) (hfit : o + cs.length ≤ cur.size) (h1 : ∀ v ∈ cs, v.oneCell' = true) :
    (Builtin.copy_ #[dT, sT] ty #[.slice (some ⟨g, o, none⟩) dLen dCap, .slice (some a) sLen sCap]).run P w =
      .ok (goInt n) (w.setRow g (cur.toList.take o ++ cs ++ cur.toList.drop (o + cs.length)).toArray) := by
  have hl2 := run_loadCells_list (P := P) w a cs hsrc
  have hst := run_storeCells_at P g o t cs 0 cur w hg (by simpa using hfit) h1
  cases hq : P.info? elem with
  | none => simp [hq] at hs
  | some i =>
    have hi : i.size = k := by simpa [hq] using hs
    simp [Builtin.copy_, run_underlying hu, Builtin.lenOf, Builtin.firstCells, sizeOf, typeInfo, hq, hi, hn, ← hl, hl2, hst]
/-- .. and where there is nothing to copy. -/
theorem run_copyk_none {P : Program} (w : World) (dT sT ty elem : TypeId) (d a : Option Addr) (dLen dCap sLen sCap : Nat) (k : Nat) (hu : P.underlying dT = some (.slice elem)) (hs : (P.info? elem).map (·.size) = some k) (hn : Nat.min sLen dLen = 0) :
    (Builtin.copy_ #[dT, sT] ty #[.slice d dLen dCap, .slice a sLen sCap]).run P w = .ok (goInt 0) w := by
  cases hq : P.info? elem with
  | none => simp [hq] at hs
  | some i =>
    have hl : ∀ (x : Addr), (loadCells x 0).run P w = .ok #[] w := fun x => by simpa using run_loadCells_list (P := P) w x [] (by simp)
    cases d <;> cases a <;> simp [Builtin.copy_, run_underlying hu, Builtin.lenOf, Builtin.firstCells, sizeOf, typeInfo, hq, hn, storeCells, hl]
theorem size44 : (Try.prog.info? 44).map (·.size) = some 2 := by kernel_rfl
theorem wpList_copy_run2 {P : Program} (w : World) {ops : Array Oper} {rest : List Oper} {o : Oper} {a : Act} {Q : Exit → Act → World → Prop} (hgd : o.guard = none) (d s : Operand) (t t' : TypeId)
    (ho : o.op = .call { callee := .builtin .copy, args := #[d, s], argTypes := #[t, t'] }) (v u : Value) (hd : a.eval d = v) (hs : a.eval s = u) {v' : Value} {w' : World}
    (hr : (Builtin.copy_ #[t, t'] o.type #[v, u]).run P w = .ok v' w') (h : wpList P ops Q rest (a.put o.dst v') w') : wpList P ops Q (o :: rest) a w :=
  wpList_plain hgd fun _ hK => by
    unfold Oper.wp execOp
    simp only [ho, resolve, invoke, builtin, Sem.run_bind, Sem.run_pure, Result.andThen_ok, List.map_toArray, List.map_cons, List.map_nil, hd, hs, hr]
    exact hK _ _ h
section
variable {w : World} {a : Option Addr} {n c : Nat} {ka : Option Addr} {kn kc : Nat} {I : List It}
set_option maxRecDepth 100000 in
set_option maxHeartbeats 1000000 in
theorem half_any (hI : Its w a n I) (hn : n ≤ 4096) (hn2 : 1 ≤ n) (hnc : n ≤ c) (hS : Short I) (b : Bool) (h : (kn == 0) = b) (x : Nat) (hx : halfN b I = x) :
    Calls Try.prog 45 #[.agg #[.slice a n c, .slice ka kn kc]] w fun e w' => e = .returned (.int .i64 (x : Int)) ∧ Below w.heap.size w w' := by
  have hh := halfN_at b I
  rw [hx] at hh
  obtain ⟨m, hm⟩ : ∃ m, n - 1 = m := ⟨_, rfl⟩
  have hbd := bytes_small (b := b) hS (by rw [hI.1]; exact hn) I.length
  rw [List.take_length] at hbd
  obtain ⟨u, hu⟩ : ∃ u, bytesN b I = u := ⟨_, rfl⟩
  rw [hu] at hbd
  have KI := Lib.hid (fun (w1 : World) (B : Below w.heap.size w w1) => itemBytes_any (c := c) (ka := ka) (kn := kn) (kc := kc) (hI.below B) hn hS h u hu)
  have KB := Lib.hid (fun (k v : ByteArray) (y : Nat) hy hk hv w => bytesOf_any k v a n c ka kn kc b h y hy hk hv w)
  have HI := Lib.hid hI
  have HL := Lib.hid hI.1
  have HS := Lib.hid hS
  have HU := Lib.hid hu
  have HH := Lib.hid hh
  have HM := Lib.hid hm
  have hmn : m ≤ n := by omega
  have hmc : m ≤ c := by omega
  have N0 := Nd.new w a n c ka kn kc 31
  have B0 := new_below w (.cells #[.slice a n c, .slice ka kn kc] 31)
  have hmi : (n : Int) - 1 = (m : Int) := by omega
  clear hI hS hx hh hm h hu
  go_enter Try.func45, Try.ntmps45
  go_wp2_with fail
  refine (KI.out _ B0).mono ?_
  rintro e w1 ⟨rfl, hb⟩
  have N1 := N0.below hb
  have B1 := below_to B0 hb
  have c0 := N1.c0
  clear hb N0 B0
  go_wp2_with fail
  clear c0
  go_loopw [4, 19] (fun s i wx => ∃ (k v : Nat), k ≤ m ∧ Hid (bytesN b (I.take k) = v) ∧ v ≤ u ∧ Hid (∀ j, j < k → 2 * bytesN b (I.take j) < bytesN b I) ∧ Nd wx w.heap.size a n c ka kn kc ∧ Below w.heap.size w wx ∧ s = .int .i64 (v : Int) ∧ i = .int .i64 (k : Int)) (fun _ i _ => m - (intOf i).toNat)
  case atStart => exact ⟨0, 0, by omega, Lib.hid (by simp [bytesN]), by omega, Lib.hid (by intro j hj; omega), N1, B1, rfl, rfl⟩
  case round =>
    clear N1 B1
    obtain ⟨k, v, hk, HV, hv, HJ, hN, hB, rfl, rfl⟩ := hrel
    by_cases hlt : k < m
    · obtain ⟨g, off, rfl, hg, e0, e1⟩ := (HI.out.below hB).at (show k < n by omega)
      have hkl : k < I.length := by rw [HL.out]; omega
      have hs := short_at HS.out k hkl
      have hst := bytesN_take_succ b I k hkl
      rw [HV.out, kv_at I k hkl] at hst
      obtain ⟨p, hp⟩ : ∃ p, kq I k = p := ⟨_, rfl⟩
      obtain ⟨q, hq⟩ : ∃ q, vq I k = q := ⟨_, rfl⟩
      rw [hp] at e0 hs hst
      rw [hq] at e1 hs hst
      obtain ⟨y, hy⟩ : ∃ y, wt b (p, q) = y := ⟨_, rfl⟩
      rw [hy] at hst
      have hle : v + y ≤ u := by
        rw [← hst, ← HU.out]; exact bytesN_sub b (List.take_sublist _ _)
      have HST := Lib.hid hst
      have HY := Lib.hid hy
      have hs1 := hs.1
      have hs2 := hs.2
      have c0 := hN.c0
      have c1 := hN.c1
      have hlt0 := hN.lt
      clear hs hst hp hq hy
      by_cases hhalf : u ≤ 2 * v
      · have HX := Lib.hid (show k = x from HalfAt.eq (b := b) (I := I) ⟨by rw [HL.out]; have := HM.out; omega, HJ.out, fun _ => by rw [HU.out, HV.out]; exact hhalf⟩ HH.out)
        have hhi : (u : Int) ≤ 2 * (v : Int) := by omega
        go_wp2_with fail
        go_ret
        exact ⟨ret_int (by rw [HX.out]), below_to hB (new_below _ _)⟩
      · have hhi : ¬ (u : Int) ≤ 2 * (v : Int) := by omega
        have HJ2 := Lib.hid (show ∀ j, j < k + 1 → 2 * bytesN b (I.take j) < bytesN b I by
          intro j hj
          rcases Nat.lt_or_ge j k with h | h
          · exact HJ.out j h
          · obtain rfl : j = k := by omega
            rw [HV.out, HU.out]; omega)
        go_wp2_with fail
        refine (KB.out p q y HY.out hs1 hs2 _).mono ?_
        rintro e w2 ⟨rfl, hb⟩
        have hb2 := below_new hb
        have hN2 := hN.below hb2
        have hB2 := below_to hB hb2
        clear hb hb2 e0 e1 c0 c1 hN hB
        go_wp2_with fail
        go_roundw
        case rel => exact ⟨k + 1, v + y, by omega, HST, by omega, HJ2, hN2, hB2, by go_num, by go_num⟩
        case measure => simp [intOf]; omega
    · obtain rfl : k = m := by omega
      have HX := Lib.hid (show k = x from HalfAt.eq (b := b) (I := I) ⟨by rw [HL.out]; have := HM.out; omega, HJ.out, fun h => by rw [HL.out] at h; have := HM.out; omega⟩ HH.out)
      go_wp2_with fail
      go_ret
      exact ⟨ret_int (by rw [HX.out]), hB⟩
end
end Go.Proofs.Ytnjpijihjifkfaa

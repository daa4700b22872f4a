import Derived.Test.YtncoandnelgkeaaGreatHc04
import Derived.Test.YtncoandnelgkeaaGreatHc05
/- Entries and logs as they are read. -/
namespace Go.Proofs.YtncoandnelgkeaaGreat
open Go.RowKit QuorumMath RlogMath
set_option maxRecDepth 100000
set_option linter.unusedSimpArgs false
set_option linter.unusedVariables false

/-- Bytes as elements. -/
def byteE : El Nat := ⟨fun z => [.int .u8 (z : Int)], 1, fun _ => rfl, fun x u hu => by
  simp only [List.mem_singleton] at hu
  subst hu
  rfl, by decide⟩
/-- A slice's parts; an entry with its bytes' slice. -/
abbrev Sl := Option Addr × Nat × Nat
abbrev Ez := Me × Sl
def entE : El Ez := ⟨fun z => [.int .u64 (z.1.idx : Int), .int .u64 (z.1.term : Int), .int .i64 z.1.kind, .slice z.2.1 z.2.2.1 z.2.2.2], 4, fun _ => rfl, fun x u hu => by
  simp only [List.mem_cons, List.not_mem_nil, or_false] at hu
  rcases hu with rfl | rfl | rfl | rfl <;> rfl, by decide⟩
/-- An entry's bytes. -/
def DataV (w : World) (z : Ez) : Prop := Rd byteE w (.slice z.2.1 z.2.2.1 z.2.2.2) z.1.data
theorem DataV.below {w w' : World} {z : Ez} (h : DataV w z) (hb : Below w.heap.size w w') : DataV w' z := Rd.below h hb
theorem DataV.len {w : World} {z : Ez} (h : DataV w z) : z.2.2.1 = z.1.data.length := by
  obtain ⟨ao, cap, e, _⟩ := h
  exact (Value.slice.inj e).2.1
/-- Entries. -/
def EntsV (w : World) (v : Value) (zs : List Ez) : Prop := Rd entE w v zs ∧ ∀ z ∈ zs, DataV w z
theorem EntsV.below {w w' : World} {v : Value} {zs : List Ez} (h : EntsV w v zs) (hb : Below w.heap.size w w') : EntsV w' v zs := ⟨h.1.below hb, fun z hz => (h.2 z hz).below hb⟩
/-- An entry's value, a log's. -/
@[reducible] def ev (z : Ez) : Value := .agg #[.int .u64 (z.1.idx : Int), .int .u64 (z.1.term : Int), .int .i64 z.1.kind, .slice z.2.1 z.2.2.1 z.2.2.2]
@[reducible] def lgv (b : Ez) (v : Value) : Value := .agg #[.int .u64 (b.1.idx : Int), .int .u64 (b.1.term : Int), .int .i64 b.1.kind, .slice b.2.1 b.2.2.1 b.2.2.2, v]
@[reducible] def lgc (b : Ez) (v : Value) : Obj := .cells #[.int .u64 (b.1.idx : Int), .int .u64 (b.1.term : Int), .int .i64 b.1.kind, .slice b.2.1 b.2.2.1 b.2.2.2, v] 28
/-- One entry of a slice, in every later world. -/
theorem rde_at {w : World} {ao : Option Addr} {n cap : Nat} {zs : List Ez} (h : Rd entE w (.slice ao n cap) zs) {i : Nat} {z : Ez} (hz : zs[i]? = some z) : ∃ b off, ao = some ⟨b, off, none⟩ ∧ ∀ W, Below w.heap.size w W → W.cell? ⟨b, off + i * 4, none⟩ = some (.int .u64 (z.1.idx : Int)) ∧ W.cell? ⟨b, off + i * 4 + 1, none⟩ = some (.int .u64 (z.1.term : Int)) ∧ W.cell? ⟨b, off + i * 4 + 2, none⟩ = some (.int .i64 z.1.kind) ∧ W.cell? ⟨b, off + i * 4 + 3, none⟩ = some (.slice z.2.1 z.2.2.1 z.2.2.2) := by
  obtain ⟨ao', cap', e, _, _, h2⟩ := h
  cases e
  obtain ⟨b, off, r1, r2⟩ := h2 i z 0 _ hz rfl
  obtain ⟨b', off', r3, r4⟩ := h2 i z 1 _ hz rfl
  cases r1.symm.trans r3
  obtain ⟨b', off', r5, r6⟩ := h2 i z 2 _ hz rfl
  cases r1.symm.trans r5
  obtain ⟨b', off', r7, r8⟩ := h2 i z 3 _ hz rfl
  cases r1.symm.trans r7
  have r2' : w.cell? ⟨b, off + i * 4, none⟩ = _ := r2
  have r4' : w.cell? ⟨b, off + i * 4 + 1, none⟩ = _ := r4
  have r6' : w.cell? ⟨b, off + i * 4 + 2, none⟩ = _ := r6
  have r8' : w.cell? ⟨b, off + i * 4 + 3, none⟩ = _ := r8
  exact ⟨b, off, r1, fun W hW => ⟨(hW.cell (p := ⟨b, off + i * 4, none⟩) (World.block_lt_of_cell? w _ r2')).trans r2', (hW.cell (p := ⟨b, off + i * 4 + 1, none⟩) (World.block_lt_of_cell? w _ r4')).trans r4', (hW.cell (p := ⟨b, off + i * 4 + 2, none⟩) (World.block_lt_of_cell? w _ r6')).trans r6', (hW.cell (p := ⟨b, off + i * 4 + 3, none⟩) (World.block_lt_of_cell? w _ r8')).trans r8'⟩⟩
theorem rdb_at {w : World} {ao : Option Addr} {n cap : Nat} {xs : List Nat} (h : Rd byteE w (.slice ao n cap) xs) {i : Nat} {x : Nat} (hx : xs[i]? = some x) : ∃ b off, ao = some ⟨b, off, none⟩ ∧ ∀ W, Below w.heap.size w W → W.cell? ⟨b, off + i, none⟩ = some (.int .u8 (x : Int)) := by
  obtain ⟨ao', cap', e, _, _, h2⟩ := h
  cases e
  obtain ⟨b, off, r1, r2⟩ := h2 i x 0 _ hx rfl
  rw [show i * byteE.k + 0 = i from Nat.mul_one i] at r2
  exact ⟨b, off, r1, fun W hW => (hW.cell (p := ⟨b, off + i, none⟩) (World.block_lt_of_cell? w _ r2)).trans r2⟩
/-- A log in its box, in every later world. -/
theorem lg_box (w : World) (b : Ez) (v : Value) : (w.alloc (lgc b v)).heap.size = w.heap.size + 1 ∧ Below w.heap.size w (w.alloc (lgc b v)) ∧ ∀ W, Below (w.heap.size + 1) (w.alloc (lgc b v)) W → W.cell? ⟨w.heap.size, 0, none⟩ = some (.int .u64 (b.1.idx : Int)) ∧ W.cell? ⟨w.heap.size, 1, none⟩ = some (.int .u64 (b.1.term : Int)) ∧ W.cell? ⟨w.heap.size, 2, none⟩ = some (.int .i64 b.1.kind) ∧ W.cell? ⟨w.heap.size, 3, none⟩ = some (.slice b.2.1 b.2.2.1 b.2.2.2) ∧ W.cell? ⟨w.heap.size, 4, none⟩ = some v := by
  obtain ⟨h1, h2, h3⟩ := one_box w (lgc b v)
  refine ⟨h1, h3, fun W hW => ?_⟩
  have := (hW.block w.heap.size (Nat.lt_succ_self _)).trans h2
  exact ⟨by rw [cells_of_block this]; rfl, by rw [cells_of_block this]; rfl, by rw [cells_of_block this]; rfl, by rw [cells_of_block this]; rfl, by rw [cells_of_block this]; rfl⟩

set_option maxHeartbeats 2000000 in
theorem nodes_of (d : List Nat) (dv : Value) (w : World) (hD : Rd byteE w dv d) (hlen : d.length ≤ 1000000000) (hc : ∀ c ∈ d, c < 256) : Calls Tryz.prog 51 #[dv] w fun e w' => ∃ v, e = .returned v ∧ Ow intE 3 w.heap.size w' v (nodesI d) ∧ Below w.heap.size w w' := by
  obtain ⟨R, HR⟩ : ∃ R, Hid (R = nodesI d) := ⟨_, rfl⟩
  rw [← HR.out]
  obtain ⟨ao, cap, rfl, -, -⟩ := hD.shape
  obtain ⟨q1, q2, q3⟩ := one_box w (.cells #[] 3)
  have hO0 : Ow intE 3 w.heap.size (w.alloc (.cells #[] 3)) (.slice (some ⟨w.heap.size, 0, none⟩) 0 0) (nodesI (d.take 0)) := ⟨Rk.made (xs := []) q2 rfl (by unfold maxLen; simp), fun k hk => by cases hk; exact Nat.le_refl _⟩
  clear q1 q2
  go_enter Tryz.func51, Tryz.ntmps51
  go_wp2
  generalize w.alloc (.cells #[] 3) = w1 at *
  go_loopg [3, 4] d.length (fun gh s3 s4 wr => ∃ (i : Nat) (st : Value), i + gh = d.length ∧ s4 = .int .i64 (i : Int) ∧ st = s3 ∧ Ow intE 3 w.heap.size wr st (nodesI (d.take i)) ∧ Below w.heap.size w wr)
  case atStart => exact ⟨0, _, by simp, rfl, rfl, hO0, q3⟩
  case round =>
    obtain ⟨i, st, hig, rfl, rfl, hO, hb⟩ := hrel
    clear hO0 q3
    by_cases hlt : i < d.length
    · have hlti : (i : Int) < (d.length : Int) := by omega
      have hx : d[i]? = some d[i] := List.getElem?_eq_getElem hlt
      obtain ⟨x, hxx⟩ : ∃ x, x = d[i] := ⟨_, rfl⟩
      rw [← hxx] at hx
      clear hxx
      obtain ⟨b, off, rfl, c⟩ := rdb_at hD hx
      have c0 := c wr hb
      have hx8 := hc x (List.mem_of_getElem? hx)
      have HS : Hid (nodesI (d.take (i + 1)) = nodesI (d.take i) ++ [(x : Int)]) := by show _ = _; unfold nodesI; rw [take_succ_get hx, List.map_append]; rfl
      have hml : (nodesI (d.take i)).length ≤ 10000000000 := by rw [nodesI_len, List.length_take]; omega
      have hrunH : Hid _ := push_int (x : Int) hO.1 hml
      obtain ⟨sa, sc, hst, -⟩ := hO.1.shape
      generalize nodesI (d.take i) = L at *
      subst hst
      clear c hx hD hc HR
      go_wp2_with (at_builtin; refine wp_by rfl _ _ _ rfl _ _ rfl rfl hrunH.out ?_)
      intro v6 w6 hp6
      obtain ⟨hO2, hb2⟩ := hO.push hb.size hp6
      rw [← HS.out] at hO2
      clear hO hrunH hp6 HS
      go_wp2
      go_roundg (gk - 1)
      case measure => omega
      case rel => exact ⟨i + 1, v6, by omega, by go_num, rfl, hO2, hb.trans hb2⟩
    · have hlti : ¬ (i : Int) < (d.length : Int) := by omega
      obtain rfl : d.length = i := by omega
      rw [List.take_length, ← HR.out] at hO
      clear hD hc HR
      go_wp2
      go_ret
      exact ⟨_, rfl, hO, hb⟩

set_option maxHeartbeats 2000000 in
theorem entry_of (z : Ez) (w : World) (hD : DataV w z) (hc : ∀ c ∈ z.1.data, c < 256) : Calls Tryz.prog 85 #[ev z] w fun e w' => e = .returned (.bool (entB z.1)) ∧ Below w.heap.size w w' := by
  obtain ⟨B, HB⟩ : ∃ B, Hid (B = entB z.1) := ⟨_, rfl⟩
  rw [← HB.out]
  have hl := hD.len
  obtain ⟨⟨ix, tm, kd, dt⟩, sa, sn, sc⟩ := z
  dsimp only at hl hc HB
  subst hl
  have hDR : Rd byteE w (.slice sa dt.length sc) dt := hD
  obtain ⟨h1, h2, h3⟩ := one_box w (.cells #[.int .u64 (ix : Int), .int .u64 (tm : Int), .int .i64 kd, .slice sa dt.length sc] 25)
  have cl : ∀ W, Below (w.heap.size + 1) (w.alloc (.cells #[.int .u64 (ix : Int), .int .u64 (tm : Int), .int .i64 kd, .slice sa dt.length sc] 25)) W → W.cell? ⟨w.heap.size, 2, none⟩ = some (.int .i64 kd) ∧ W.cell? ⟨w.heap.size, 3, none⟩ = some (.slice sa dt.length sc) := fun W hW => by
    have := (hW.block w.heap.size (Nat.lt_succ_self _)).trans h2
    exact ⟨by rw [cells_of_block this]; rfl, by rw [cells_of_block this]; rfl⟩
  obtain ⟨c2, c3⟩ := cl _ (Below.refl _ _)
  by_cases k0 : kd < 0
  · have E : Hid (B = false) := by show _ = _; rw [HB.out]; exact ent_neg k0
    clear HB cl hD hDR h2
    go_enter Tryz.func85, Tryz.ntmps85
    go_wp2
    go_ret
    exact ⟨by rw [E.out]; rfl, h3⟩
  · by_cases k3 : 3 ≤ kd
    · have E : Hid (B = false) := by show _ = _; rw [HB.out]; exact ent_big k3
      clear HB cl hD hDR h2
      go_enter Tryz.func85, Tryz.ntmps85
      go_wp2
      go_ret
      exact ⟨by rw [E.out]; rfl, h3⟩
    · by_cases hl : 4096 < dt.length
      · have hli : (4096 : Int) < (dt.length : Int) := by omega
        have E : Hid (B = false) := by show _ = _; rw [HB.out]; exact ent_long hl
        clear HB cl hD hDR h2
        go_enter Tryz.func85, Tryz.ntmps85
        go_wp2
        go_ret
        exact ⟨by rw [E.out]; rfl, h3⟩
      · have hli : ¬ (4096 : Int) < (dt.length : Int) := by omega
        have E0 : Hid (B = (!decide (kd = 2) || votB (nodesI dt))) := by
          show _ = _
          rw [HB.out]
          exact ent_in k0 k3 hl
        clear HB
        by_cases k2 : kd = 2
        · have E : Hid (B = votB (nodesI dt)) := by show _ = _; rw [E0.out, decide_eq_true k2]; rfl
          have kn := nodes_of dt (.slice sa dt.length sc) (w.alloc (.cells #[.int .u64 (ix : Int), .int .u64 (tm : Int), .int .i64 kd, .slice sa dt.length sc] 25)) (hDR.below h3) (by omega) hc
          subst k2
          clear E0 cl hD hDR h2 hc
          go_enter Tryz.func85, Tryz.ntmps85
          go_wp2_with fail
          refine kn.mono ?_
          rintro e w1 ⟨u, rfl, hO, hb1⟩
          have hb01 := h3.trans (hb1.mono (by rw [h1]; omega))
          have kv := rvoters_of (nodesI dt) u w1 hO.1.rd (by rw [nodesI_len]; omega)
          rw [← E.out] at kv
          obtain ⟨ua, uc, rfl, -, -⟩ := hO.1.rd.shape
          clear kn hO E
          go_wp2_with fail
          refine kv.mono ?_
          rintro e w2 ⟨rfl, hb2⟩
          go_wp2
          go_ret
          exact ⟨rfl, hb01.trans (hb2.mono hb01.size)⟩
        · have E : Hid (B = true) := by show _ = _; rw [E0.out, decide_eq_false k2]; rfl
          clear E0 cl hD hDR h2 hc
          go_enter Tryz.func85, Tryz.ntmps85
          go_wp2
          go_ret
          exact ⟨by rw [E.out]; rfl, h3⟩
end Go.Proofs.YtncoandnelgkeaaGreat

/- The contracts of the document's Behind, May, Last, Term, Fresh. -/
namespace Go.Proofs.YtncoandnelgkeaaGreat
open Go.RowKit QuorumMath RlogMath
set_option maxRecDepth 100000
set_option linter.unusedSimpArgs false
set_option linter.unusedVariables false

/-- Numbers and bytes as they came in. -/
def EzOk (z : Ez) : Prop := z.1.idx < 18446744073709551616 ∧ z.1.term < 18446744073709551616 ∧ ∀ c ∈ z.1.data, c < 256
abbrev mes (zs : List Ez) : List Me := zs.map fun z => z.1
theorem mes_at {zs : List Ez} {i : Nat} {z : Ez} (h : zs[i]? = some z) : (mes zs)[i]? = some z.1 := by rw [List.getElem?_map, h]; rfl

set_option maxHeartbeats 400000 in
theorem behind_of (x t : Nat) (zs : List Ez) (lv : Value) (w : World) (hL : EntsV w lv zs) (hx : x < 18446744073709551616) (hok : ∀ z ∈ zs, EzOk z) (hlen : zs.length ≤ 1000000000000) : Calls Tryz.prog 44 #[.int .u64 (x : Int), .int .u64 (t : Int), lv] w fun e w' => e = .returned (.bool (behB x t (mes zs))) ∧ Below w.heap.size w w' := by
  obtain ⟨B, HB⟩ : ∃ B, Hid (B = behB x t (mes zs)) := ⟨_, rfl⟩
  rw [← HB.out]
  obtain ⟨ao, cap, rfl, -, -⟩ := hL.1.shape
  have HX : Hid (x < 18446744073709551616) := hx
  have HOK : Hid (∀ z ∈ zs, EzOk z) := hok
  clear hx hok
  go_enter Tryz.func44, Tryz.ntmps44
  go_wp2
  go_loopg [0, 1, 7] zs.length (fun gh s0 s1 s7 wr => ∃ (k X T : Nat), k + gh = zs.length ∧ s7 = .int .i64 (k : Int) ∧ s0 = .int .u64 (X : Int) ∧ s1 = .int .u64 (T : Int) ∧ Hid (X < 18446744073709551616) ∧ Below w.heap.size w wr ∧ Hid (B = behB X T ((mes zs).drop k)))
  case atStart => exact ⟨0, x, t, by simp, rfl, rfl, rfl, HX, Below.refl _ _, by rw [List.drop_zero]; exact HB⟩
  case round =>
    obtain ⟨k, X, T, hkg, rfl, rfl, rfl, HXX, hb, HBB⟩ := hrel
    clear HX HB
    by_cases hlt : k < zs.length
    · have hlti : (k : Int) < (zs.length : Int) := by omega
      have hz : zs[k]? = some zs[k] := List.getElem?_eq_getElem hlt
      obtain ⟨z, hzz⟩ : ∃ z, z = zs[k] := ⟨_, rfl⟩
      rw [← hzz] at hz
      clear hzz
      obtain ⟨b, off, rfl, c⟩ := rde_at hL.1 hz
      obtain ⟨c0, c1, c2, c3⟩ := c wr hb
      have hzm := List.mem_of_getElem? hz
      have hzo := HOK.out z hzm
      have HZ : Hid (z.1.idx < 18446744073709551616) := hzo.1
      have HBZ := HBB.out
      rw [beh_at (mes_at hz)] at HBZ
      have ke := entry_of z wr ((hL.2 z hzm).below hb) hzo.2.2
      by_cases h1 : X = 18446744073709551615
      · have E : Hid (B = false) := by show _ = _; rw [HBZ, decide_eq_false (by simpa using h1)]; rfl
        have h1i : (X : Int) = 18446744073709551615 := by omega
        have h1b : ((X : Int) == 18446744073709551615) = true := by simpa using h1i
        obtain ⟨⟨ix, tm, kd, dt⟩, sa, sn, sc⟩ := z
        dsimp only at c0 c1 c2 c3
        clear HBB HBZ HOK hz c hzm hzo hL ke HZ HXX h1
        go_wp2
        go_ret
        exact ⟨by rw [E.out]; rfl, hb⟩
      · have h1b : ((X : Int) == 18446744073709551615) = false := by simp; omega
        have h1n : ¬ (X : Int) = 18446744073709551615 := by omega
        obtain ⟨Y, hY⟩ : ∃ Y, Hid (Y = X + 1) := ⟨_, rfl⟩
        have hwr : IntKind.u64.wrap ((X : Int) + 1) = (Y : Int) := by
          have h9 := HXX.out
          have h8 := hY.out
          rw [show (X : Int) + 1 = (Y : Int) by omega]
          exact IntWalk.u64_in _ (by omega)
        rw [decide_eq_true (show X ≠ 18446744073709551615 from h1), Bool.true_and, ← hY.out] at HBZ
        obtain ⟨⟨ix, tm, kd, dt⟩, sa, sn, sc⟩ := z
        dsimp only at c0 c1 c2 c3 HBZ HZ
        have ke' : Calls Tryz.prog 85 #[.agg #[.int .u64 (ix : Int), .int .u64 (tm : Int), .int .i64 kd, .slice sa sn sc]] wr _ := ke
        clear ke
        have ke := ke'
        clear ke'
        by_cases h2 : ix = Y
        · rw [decide_eq_true h2, Bool.true_and] at HBZ
          subst h2
          by_cases h3 : tm < T
          · have h3i : (tm : Int) < (T : Int) := by omega
            have E : Hid (B = false) := by show _ = _; rw [HBZ, decide_eq_false (by omega : ¬ T ≤ tm)]; rfl
            clear HBB HBZ HOK hz c hzm hzo hL HXX h1 hY ke HZ
            go_wp2
            go_ret
            exact ⟨by rw [E.out]; rfl, hb⟩
          · have h3i : ¬ (tm : Int) < (T : Int) := by omega
            rw [decide_eq_true (by omega : T ≤ tm), Bool.true_and] at HBZ
            cases he : entB ⟨ix, tm, kd, dt⟩ with
            | false =>
              rw [he] at ke HBZ
              have E : Hid (B = false) := by show _ = _; rw [HBZ]; rfl
              clear HBB HBZ HOK hz c hzm hzo hL HXX h1 hY HZ he
              go_wp2_with fail
              refine ke.mono ?_
              rintro e w1 ⟨rfl, hb1⟩
              go_wp2
              go_ret
              exact ⟨by rw [E.out]; rfl, hb.trans (hb1.mono hb.size)⟩
            | true =>
              rw [he] at ke HBZ
              have E : Hid (B = behB ix tm ((mes zs).drop (k + 1))) := by show _ = _; rw [HBZ]; rfl
              have cW := fun W hW => c W (hb.trans hW)
              have hbs := hb.size
              clear HBB HBZ HOK hz hzm hzo hL HXX h1 hY he
              go_wp2_with fail
              refine ke.mono ?_
              rintro e w1 ⟨rfl, hb1⟩
              obtain ⟨e0, e1, -, -⟩ := cW w1 (hb1.mono hbs)
              clear c0 c1 c2 c3 c cW ke
              go_wp2
              go_roundg (gk - 1)
              case measure => omega
              case rel => exact ⟨k + 1, ix, tm, by omega, by go_num, rfl, rfl, HZ, hb.trans (hb1.mono hb.size), E⟩
        · have h2i : ¬ (ix : Int) = (Y : Int) := by omega
          have h2b : ((ix : Int) != (Y : Int)) = true := by simp; omega
          have E : Hid (B = false) := by show _ = _; rw [HBZ, decide_eq_false h2]; rfl
          clear HBB HBZ HOK hz c hzm hzo hL HXX h1 hY ke HZ h2
          go_wp2
          go_ret
          exact ⟨by rw [E.out]; rfl, hb⟩
    · have hlti : ¬ (k : Int) < (zs.length : Int) := by omega
      have E : Hid (B = true) := by show _ = _; rw [HBB.out, List.drop_eq_nil_of_le (by simp; omega)]; rfl
      clear HBB HOK hL HXX
      go_wp2
      go_ret
      exact ⟨by rw [E.out]; rfl, hb⟩
end Go.Proofs.YtncoandnelgkeaaGreat

/- The contract of the document's May. -/
namespace Go.Proofs.YtncoandnelgkeaaGreat
open Go.RowKit QuorumMath RlogMath
set_option maxRecDepth 100000
set_option linter.unusedSimpArgs false
set_option linter.unusedVariables false

set_option maxHeartbeats 4000000 in
theorem may_of (b : Ez) (zs : List Ez) (lv : Value) (w : World) (hD : DataV w b) (hL : EntsV w lv zs) (hbo : EzOk b) (hok : ∀ z ∈ zs, EzOk z) (hlen : zs.length ≤ 1000000000000) (hdl : b.1.data.length ≤ 1000000000) : Calls Tryz.prog 32 #[lgv b lv] w fun e w' => e = .returned (.bool (mayB b.1 (mes zs))) ∧ Below w.heap.size w w' := by
  obtain ⟨B, HB⟩ : ∃ B, Hid (B = mayB b.1 (mes zs)) := ⟨_, rfl⟩
  rw [← HB.out]
  obtain ⟨hs, hb0, cl⟩ := lg_box w b lv
  have kn := nodes_of b.1.data _ (w.alloc (lgc b lv)) (hD.below hb0) hdl hbo.2.2
  have kb := fun W (hW : Below w.heap.size w W) => behind_of b.1.idx b.1.term zs lv W (hL.below hW) hbo.1 hok hlen
  have hln := hD.len
  obtain ⟨la, lc, rfl, -, -⟩ := hL.1.shape
  obtain ⟨⟨ix, tm, kd, dt⟩, sa, sn, sc⟩ := b
  dsimp only [lgc] at *
  subst hln
  obtain ⟨c0, c1, c2, c3, c4⟩ := cl _ (Below.refl _ _)
  clear hD hL hbo hok
  by_cases h1 : kd = 0
  · subst h1
    have HB1 : Hid (B = (votB (nodesI dt) && decide (ix ≤ 4611686018427387904) && decide (zs.length ≤ 4096) && behB ix tm (mes zs))) := by show _ = _; rw [HB.out]; unfold mayB; simp [mes]
    clear HB
    go_enter Tryz.func32, Tryz.ntmps32
    go_wp2_with fail
    refine kn.mono ?_
    rintro e w1 ⟨u, rfl, hO, hb1⟩
    rw [hs] at hb1
    have hb01 := hb0.trans (hb1.mono (Nat.le_succ _))
    have kv := rvoters_of (nodesI dt) u w1 hO.1.rd (by rw [nodesI_len]; omega)
    obtain ⟨ua, uc, rfl, -, -⟩ := hO.1.rd.shape
    clear kn hO
    go_wp2_with fail
    refine kv.mono ?_
    rintro e w2 ⟨rfl, hb2⟩
    have hb12 : Below (w.heap.size + 1) (w.alloc (.cells #[.int .u64 (ix : Int), .int .u64 (tm : Int), .int .i64 0, .slice sa dt.length sc, .slice la zs.length lc] 28)) w2 := hb1.trans (hb2.mono (by have := hb1.size; omega))
    have hb02 := hb0.trans (hb12.mono (Nat.le_succ _))
    obtain ⟨d0, d1, d2, d3, d4⟩ := cl w2 hb12
    have kb1 := kb w2 hb02
    clear kv kb cl c0 c1 c2 c3 c4 hb1 hb2 hb01
    cases hv : votB (nodesI dt) with
    | false =>
      have E : Hid (B = false) := by show _ = _; rw [HB1.out, hv]; rfl
      clear HB1 hv kb1
      go_wp2
      go_ret
      exact ⟨by rw [E.out]; rfl, hb02⟩
    | true =>
      by_cases h2 : 4611686018427387904 < ix
      · have h2d : decide ((4611686018427387904 : Int) < (ix : Int)) = true := by simp; omega
        have E : Hid (B = false) := by show _ = _; rw [HB1.out, decide_eq_false (by omega : ¬ ix ≤ 4611686018427387904), Bool.and_false]; rfl
        clear HB1 hv kb1 h2
        go_wp2
        go_ret
        exact ⟨by rw [E.out]; rfl, hb02⟩
      · have h2d : decide ((4611686018427387904 : Int) < (ix : Int)) = false := by simp; omega
        by_cases h3 : 4096 < zs.length
        · have h3i : (4096 : Int) < (zs.length : Int) := by omega
          have E : Hid (B = false) := by show _ = _; rw [HB1.out, decide_eq_false (by omega : ¬ zs.length ≤ 4096), Bool.and_false]; rfl
          clear HB1 hv kb1 h2
          go_wp2
          go_ret
          exact ⟨by rw [E.out]; rfl, hb02⟩
        · have h3i : ¬ (4096 : Int) < (zs.length : Int) := by omega
          have E : Hid (B = behB ix tm (mes zs)) := by show _ = _; rw [HB1.out, hv, decide_eq_true (by omega : ix ≤ 4611686018427387904), decide_eq_true (by omega : zs.length ≤ 4096)]; rfl
          rw [← E.out] at kb1
          clear HB1 hv h2 E
          go_wp2_with fail
          refine kb1.mono ?_
          rintro e w3 ⟨rfl, hb3⟩
          go_wp2
          go_ret
          exact ⟨rfl, hb02.trans (hb3.mono hb02.size)⟩
  · have h1b : (kd != 0) = true := by simpa using h1
    have E : Hid (B = false) := by show _ = _; rw [HB.out]; unfold mayB; rw [decide_eq_false h1]; rfl
    clear HB cl kn kb
    go_enter Tryz.func32, Tryz.ntmps32
    go_wp2
    go_ret
    exact ⟨by rw [E.out]; rfl, hb0⟩
end Go.Proofs.YtncoandnelgkeaaGreat

/- The contracts of the document's Last, Term, Fresh, Voters. -/
namespace Go.Proofs.YtncoandnelgkeaaGreat
open Go.RowKit QuorumMath RlogMath
set_option maxRecDepth 100000
set_option linter.unusedSimpArgs false
set_option linter.unusedVariables false

theorem lastM_at {b : Me} {zs : List Ez} {j : Nat} {z : Ez} (hz : zs[j]? = some z) (hj : j + 1 = zs.length) : lastM b (mes zs) = (z.1.idx, z.1.term) := by
  unfold lastM
  rw [List.getLast?_eq_getElem?, mes_at (i := (mes zs).length - 1) (z := z) (by rw [show (mes zs).length - 1 = j by simp; omega]; exact hz)]

/-- What Last tells. -/
@[reducible] def lastV (p : Nat × Nat) : Value := .tuple #[.int .u64 (p.1 : Int), .int .u64 (p.2 : Int)]
set_option maxHeartbeats 4000000 in
theorem rlast_of (b : Ez) (zs : List Ez) (lv : Value) (w : World) (hL : EntsV w lv zs) (hlen : zs.length ≤ 1000000000000) : Calls Tryz.prog 33 #[lgv b lv] w fun e w' => e = .returned (lastV (lastM b.1 (mes zs))) ∧ Below w.heap.size w w' := by
  obtain ⟨R, HR⟩ : ∃ R, Hid (R = lastM b.1 (mes zs)) := ⟨_, rfl⟩
  rw [← HR.out]
  obtain ⟨hs, hb0, cl⟩ := lg_box w b lv
  obtain ⟨la, lc, rfl, -, -⟩ := hL.1.shape
  obtain ⟨c0, c1, c2, c3, c4⟩ := cl _ (Below.refl _ _)
  by_cases h0 : zs.length = 0
  · have E : Hid (R = (b.1.idx, b.1.term)) := by
      show _ = _
      rw [HR.out, List.eq_nil_of_length_eq_zero h0]
      rfl
    obtain ⟨R1, R2⟩ := R
    obtain ⟨⟨ix, tm, kd, dt⟩, sa, sn, sc⟩ := b
    dsimp only [lgc] at *
    clear HR hL cl
    rw [h0] at hb0 c4 c0 c1
    rw [h0] at *
    go_enter Tryz.func33, Tryz.ntmps33
    go_wp2
    go_quiet (fail)
    go_wp2
    go_ret2
    exact ⟨by cases E.out; rfl, below_dN hb0 nq⟩
  · obtain ⟨j, hj⟩ : ∃ j, Hid (j + 1 = zs.length) := ⟨zs.length - 1, by show _ = _; omega⟩
    have hjl : j < zs.length := by have := hj.out; omega
    have hz : zs[j]? = some zs[j] := List.getElem?_eq_getElem hjl
    obtain ⟨z, hzz⟩ : ∃ z, z = zs[j] := ⟨_, rfl⟩
    rw [← hzz] at hz
    clear hzz
    obtain ⟨p, off, rfl, c⟩ := rde_at hL.1 hz
    obtain ⟨d0, d1, d2, d3⟩ := c _ hb0
    have E : Hid (R = (z.1.idx, z.1.term)) := by show _ = _; rw [HR.out, lastM_at hz hj.out]
    obtain ⟨R1, R2⟩ := R
    obtain ⟨⟨ix, tm, kd, dt⟩, sa, sn, sc⟩ := b
    obtain ⟨⟨ix2, tm2, kd2, dt2⟩, sa2, sn2, sc2⟩ := z
    dsimp only [lgc] at *
    have HJ : Hid (j + 1 = zs.length) := hj
    clear hj hL hz c cl HR
    generalize zs.length = n at *
    have hj := HJ
    have h0i : ¬ (n : Int) = 0 := by omega
    have q1 : IntKind.i64.wrap ((n : Int) - 1) = (j : Int) := by have := hj.out; rw [show (n : Int) - 1 = (j : Int) by omega]; exact IntWalk.i64_in _ (by omega)
    have q2 : (n : Int) - 1 = (j : Int) := by have := hj.out; omega
    have q3 : (j : Int) < (n : Int) := by omega
    clear hj HJ
    go_enter Tryz.func33, Tryz.ntmps33
    go_wp2
    go_quiet (fail)
    go_wp2
    go_ret2
    exact ⟨by cases E.out; rfl, below_dN (hb0.alloc hb0.size _) nq⟩

/-- What Term tells. -/
@[reducible] def termV : Option Nat → Value
  | none => .tuple #[.int .u64 0, .bool false]
  | some t => .tuple #[.int .u64 (t : Int), .bool true]
set_option maxHeartbeats 4000000 in
theorem rterm_of (b : Ez) (zs : List Ez) (lv : Value) (x : Nat) (w : World) (hL : EntsV w lv zs) (hlen : zs.length ≤ 1000000000000) : Calls Tryz.prog 73 #[lgv b lv, .int .u64 (x : Int)] w fun e w' => e = .returned (termV (termM b.1 (mes zs) x)) ∧ Below w.heap.size w w' := by
  obtain ⟨R, HR⟩ : ∃ R, Hid (R = termM b.1 (mes zs) x) := ⟨_, rfl⟩
  rw [← HR.out]
  obtain ⟨hs, hb0, cl⟩ := lg_box w b lv
  obtain ⟨la, lc, rfl, -, -⟩ := hL.1.shape
  obtain ⟨c0, c1, c2, c3, c4⟩ := cl _ (Below.refl _ _)
  by_cases h0 : x = b.1.idx
  · have E : Hid (R = some b.1.term) := by show _ = _; rw [HR.out]; unfold termM; rw [if_pos h0]
    obtain ⟨⟨ix, tm, kd, dt⟩, sa, sn, sc⟩ := b
    dsimp only [lgc] at *
    subst h0
    clear HR hL cl
    go_enter Tryz.func73, Tryz.ntmps73
    go_wp2
    go_ret2
    exact ⟨by rw [E.out]; rfl, hb0⟩
  · have E : Hid (R = termF (mes zs) x) := by show _ = _; rw [HR.out]; unfold termM; rw [if_neg h0]
    obtain ⟨⟨ix, tm, kd, dt⟩, sa, sn, sc⟩ := b
    dsimp only [lgc] at *
    have h0b : ((x : Int) == (ix : Int)) = false := by simp; omega
    have h0i : ¬ (x : Int) = (ix : Int) := by omega
    clear HR
    go_enter Tryz.func73, Tryz.ntmps73
    go_wp2
    go_loopg [6] zs.length (fun gh s6 wr => ∃ k : Nat, k + gh = zs.length ∧ s6 = .int .i64 (k : Int) ∧ wr = w.alloc (.cells #[.int .u64 (ix : Int), .int .u64 (tm : Int), .int .i64 kd, .slice sa sn sc, .slice la zs.length lc] 28) ∧ Hid (R = termF ((mes zs).drop k) x))
    case atStart => exact ⟨0, by simp, rfl, rfl, by rw [List.drop_zero]; exact E⟩
    case round =>
      obtain ⟨k, hkg, rfl, hwr, HK⟩ := hrel
      have HW : Hid (wr = _) := hwr
      rw [← hwr] at c0 c1 c2 c3 c4 hb0
      clear hwr E cl
      by_cases hlt : k < zs.length
      · have hlti : (k : Int) < (zs.length : Int) := by omega
        have hz : zs[k]? = some zs[k] := List.getElem?_eq_getElem hlt
        obtain ⟨z, hzz⟩ : ∃ z, z = zs[k] := ⟨_, rfl⟩
        rw [← hzz] at hz
        clear hzz
        obtain ⟨p, off, rfl, c⟩ := rde_at hL.1 hz
        obtain ⟨d0, d1, d2, d3⟩ := c _ hb0
        have hK := HK.out
        rw [termF_at (mes_at hz)] at hK
        obtain ⟨⟨ix2, tm2, kd2, dt2⟩, sa2, sn2, sc2⟩ := z
        dsimp only at d0 d1 d2 d3 hK
        by_cases hx : ix2 = x
        · have E : Hid (R = some tm2) := by show _ = _; rw [hK, if_pos hx]
          subst hx
          clear hK HK hz c hL
          go_wp2
          go_ret2
          exact ⟨by rw [E.out]; rfl, hb0⟩
        · have E : Hid (R = termF ((mes zs).drop (k + 1)) x) := by show _ = _; rw [hK, if_neg hx]
          have hxb : ((ix2 : Int) == (x : Int)) = false := by simp; omega
          have hxi : ¬ (ix2 : Int) = (x : Int) := by omega
          clear hK HK hz c hL
          go_wp2
          go_roundg (gk - 1)
          case measure => omega
          case rel => exact ⟨k + 1, by omega, by go_num, HW.out, E⟩
      · have hlti : ¬ (k : Int) < (zs.length : Int) := by omega
        have E : Hid (R = none) := by show _ = _; rw [HK.out, List.drop_eq_nil_of_le (by simp; omega)]; rfl
        clear HK hL
        go_wp2
        go_ret2
        exact ⟨by rw [E.out]; rfl, hb0⟩

set_option maxHeartbeats 4000000 in
theorem rvot_of (b : Ez) (zs : List Ez) (lv : Value) (w : World) (hD : DataV w b) (hL : EntsV w lv zs) (hbo : EzOk b) (hok : ∀ z ∈ zs, EzOk z) (hlen : zs.length ≤ 1000000000000) (hdl : b.1.data.length ≤ 1000000000) (hdz : ∀ z ∈ zs, z.1.data.length ≤ 1000000000) : Calls Tryz.prog 21 #[lgv b lv] w fun e w' => ∃ v, e = .returned v ∧ Rd intE w' v (votM b.1 (mes zs)) ∧ Below w.heap.size w w' := by
  obtain ⟨R, HR⟩ : ∃ R, Hid (R = votM b.1 (mes zs)) := ⟨_, rfl⟩
  rw [← HR.out]
  obtain ⟨hs, hb0, cl⟩ := lg_box w b lv
  have kn := nodes_of b.1.data _ (w.alloc (lgc b lv)) (hD.below hb0) hdl hbo.2.2
  have kz := fun z (hz : z ∈ zs) W (hW : Below w.heap.size w W) => nodes_of z.1.data _ W ((hL.2 z hz).below hW) (hdz z hz) (hok z hz).2.2
  have hln := hD.len
  obtain ⟨la, lc, rfl, -, -⟩ := hL.1.shape
  obtain ⟨⟨ix, tm, kd, dt⟩, sa, sn, sc⟩ := b
  dsimp only [lgc] at *
  subst hln
  obtain ⟨c0, c1, c2, c3, c4⟩ := cl _ (Below.refl _ _)
  clear hD hbo hok hdl
  go_enter Tryz.func21, Tryz.ntmps21
  go_wp2_with fail
  refine kn.mono ?_
  rintro e w1 ⟨u, rfl, hO, hb1⟩
  rw [hs] at hb1
  have hRd := hO.1.rd
  clear kn hO c0 c1 c2 c3 c4
  go_wp2
  go_loopg [3, 4] zs.length (fun gh s3 s4 wr => ∃ (k : Nat) (d : List Nat) (st : Value), k + gh = zs.length ∧ s4 = .int .i64 (k : Int) ∧ st = s3 ∧ Rd intE wr st (nodesI d) ∧ Below (w.heap.size + 1) (w.alloc (.cells #[.int .u64 (ix : Int), .int .u64 (tm : Int), .int .i64 kd, .slice sa dt.length sc, .slice la zs.length lc] 28)) wr ∧ Hid (R = nodesI (votF d ((mes zs).drop k))))
  case atStart => exact ⟨0, dt, _, by simp, rfl, rfl, hRd, hb1, by rw [List.drop_zero]; exact HR⟩
  case round =>
    obtain ⟨k, d, st, hkg, rfl, rfl, hRs, hb2, HK⟩ := hrel
    have hb02 := hb0.trans (hb2.mono (Nat.le_succ _))
    obtain ⟨c0, c1, c2, c3, c4⟩ := cl wr hb2
    clear HR hRd hb1
    by_cases hlt : k < zs.length
    · have hlti : (k : Int) < (zs.length : Int) := by omega
      have hz : zs[k]? = some zs[k] := List.getElem?_eq_getElem hlt
      obtain ⟨z, hzz⟩ : ∃ z, z = zs[k] := ⟨_, rfl⟩
      rw [← hzz] at hz
      clear hzz
      obtain ⟨p, off, rfl, c⟩ := rde_at hL.1 hz
      obtain ⟨d0, d1, d2, d3⟩ := c _ hb02
      have hK := HK.out
      rw [votF_at (mes_at hz)] at hK
      have kz1 := kz z (List.mem_of_getElem? hz) wr hb02
      have hzl := (hL.2 z (List.mem_of_getElem? hz)).len
      obtain ⟨⟨ix2, tm2, kd2, dt2⟩, sa2, sn2, sc2⟩ := z
      dsimp only at d0 d1 d2 d3 hK kz1 hzl
      subst hzl
      by_cases hx : kd2 = 2
      · have E : Hid (R = nodesI (votF dt2 ((mes zs).drop (k + 1)))) := by show _ = _; rw [hK, if_pos hx]
        subst hx
        have hws : w.heap.size + 1 ≤ wr.heap.size := by have := hb2.size; omega
        clear hK HK hz c hL kz cl hdz
        go_wp2_with fail
        refine kz1.mono ?_
        rintro e w5 ⟨u5, rfl, hO5, hb5⟩
        have hb25 := hb2.trans (hb5.mono hws)
        have hR5 := hO5.1.rd
        clear kz1 hO5
        go_wp2
        go_roundg (gk - 1)
        case measure => omega
        case rel => exact ⟨k + 1, dt2, u5, by omega, by go_num, rfl, hR5, hb25, E⟩
      · have E : Hid (R = nodesI (votF d ((mes zs).drop (k + 1)))) := by show _ = _; rw [hK, if_neg hx]
        have hxb : (kd2 == 2) = false := by simpa using hx
        clear hK HK hz c hL kz cl hdz kz1
        go_wp2
        go_roundg (gk - 1)
        case measure => omega
        case rel => exact ⟨k + 1, d, _, by omega, by go_num, rfl, hRs, hb2, E⟩
    · have hlti : ¬ (k : Int) < (zs.length : Int) := by omega
      have E : Hid (R = nodesI d) := by show _ = _; rw [HK.out, List.drop_eq_nil_of_le (by simp; omega)]; rfl
      rw [← E.out] at hRs
      clear HK hL cl kz hdz
      go_wp2
      go_ret
      exact ⟨_, rfl, hRs, hb02⟩
end Go.Proofs.YtncoandnelgkeaaGreat


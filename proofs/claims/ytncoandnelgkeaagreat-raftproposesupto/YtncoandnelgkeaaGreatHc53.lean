import Derived.Test.YtncoandnelgkeaaGreatHc52
import Derived.Test.YtncoandnelgkeaaGreatHc42
/- How states and messages that came in are read, and what the bulk bounds. -/
namespace Go.Proofs.YtncoandnelgkeaaGreat
open Go.ChangeShapes Go.WideShapes Go.RowKit QuorumMath RlogMath RaftMath
set_option maxRecDepth 100000
set_option linter.unusedSimpArgs false
set_option linter.unusedVariables false

theorem cells_raft : Tryz.prog.cellsOf 32 = 14 := by kernel_rfl
theorem cells_peer : Tryz.prog.cellsOf 71 = 3 := by kernel_rfl
/-- A slice of any element, opened. -/
theorem slice_opened {α : Type} (E : El α) (z0 : α) (P : α → Prop) {H : Type} {enc : TypeId × Value → H} {W : World} {fuel : Nat} {v : Value} {x : DataW H × List MemPlace} {t e : TypeId} (ht : Tryz.prog.underlying t = some (.slice e)) (hce : Tryz.prog.cellsOf e = E.k)
    (hop : ∀ (fuel : Nat) (cs : List Value) (y : DataW H × List MemPlace), DataW.trod enc Tryz.prog W 0 (fun _ => true) true fuel e cs = some y → cs.length = E.k → ∃ r : α, cs = E.enc r ∧ P r)
    (h : DataW.trod enc Tryz.prog W 0 (fun _ => true) true fuel t [v] = some x) : ∃ xs : List α, Rd E W v xs ∧ (∀ y ∈ xs, P y) ∧ xs.length ≤ Rows.uptoBulk x.1 := by
  rcases Deep.open_slice ht h with ⟨hcs, hx⟩ | ⟨a, len, cap, m, n, D, Pl, hcs, _, hl, hm, hmm, hx, hc⟩
  · obtain rfl : v = .slice none 0 0 := by simpa using hcs
    exact ⟨[], (Rk.nil E W t).rd, by simp, Nat.zero_le _⟩
  · obtain rfl : v = .slice (some a) len cap := by simpa using hcs
    have hmc : m = cap := by rw [hmm]; rfl
    subst hmc
    have hbk : Rows.uptoBulkAll ((List.range len).map D) + 1 ≤ Rows.uptoBulk x.1 := by
      rw [(Prod.mk.inj hx).1]
      simp only [Rows.uptoBulk]
      omega
    have each : ∀ i, i < len → ∃ z : α, (∀ j u, (E.enc z)[j]? = some u → W.cell? (a.add (i * E.k + j)) = some u) ∧ P z := by
      intro i hi
      obtain ⟨cs', h1, h2⟩ := hc i (by omega)
      rw [hce] at h1
      obtain ⟨_, hlen, hcell⟩ := World.cells?_some h1
      obtain ⟨z, hs, hp⟩ := hop _ _ _ h2 hlen
      refine ⟨z, fun j u hu => ?_, hp⟩
      have hj := (List.getElem?_eq_some_iff.1 hu).1
      rw [E.len] at hj
      have e := hcell j hj
      rw [Deep.add_add, hs, hu] at e
      exact e
    haveI : Inhabited α := ⟨z0⟩
    obtain ⟨Q, hQ⟩ := Deep.choose_lt (α := α) each
    have hzl : ((List.range len).map Q).length = len := by simp
    refine ⟨(List.range len).map Q, ⟨some a, m, by rw [hzl], by rw [hzl]; exact hl, (fun h => by cases h), fun i x j u hx' hu => ?_⟩, fun y hy => ?_, ?_⟩
    · have hi : i < len := by
        have := (List.getElem?_eq_some_iff.1 hx').1
        simpa using this
      have e : Q i = x := by simpa [hi] using hx'
      have g := (hQ i hi).1 j u (by rw [e]; exact hu)
      obtain ⟨b, off, spot⟩ := a
      have hspot : spot = none := by
        have g0 := (hQ 0 (by omega)).1 0 ((E.enc (Q 0))[0]'(by rw [E.len]; exact E.pos)) (List.getElem?_eq_getElem _)
        rw [Nat.zero_mul] at g0
        simpa [Addr.add] using World.cell?_spot g0
      subst hspot
      rw [Addr.add_lit] at g
      exact ⟨b, off, rfl, g⟩
    · obtain ⟨i, hi, rfl⟩ := List.mem_map.1 hy
      exact (hQ i (List.mem_range.1 hi)).2
    · rw [hzl]
      have := bulk_len ((List.range len).map D)
      simp only [List.length_map, List.length_range] at this
      omega
theorem ints_opened {H : Type} {enc : TypeId × Value → H} {W : World} {fuel : Nat} {v : Value} {x : DataW H × List MemPlace} (h : DataW.trod enc Tryz.prog W 0 (fun _ => true) true fuel 29 [v] = some x) : ∃ xs : List Int, Rd intE W v xs ∧ xs.length ≤ Rows.uptoBulk x.1 := by
  obtain ⟨xs, h1, _, h3⟩ := slice_opened intE 0 (fun _ => True) Tryz.underlying29 cells_int (fun _ _ _ h hl => by
    obtain ⟨z, e, _⟩ := DataW.trod_int Tryz.underlying3 h
    exact ⟨z, e, trivial⟩) h
  exact ⟨xs, h1, h3⟩
theorem peers_opened {H : Type} {enc : TypeId × Value → H} {W : World} {fuel : Nat} {v : Value} {x : DataW H × List MemPlace} (h : DataW.trod enc Tryz.prog W 0 (fun _ => true) true fuel 30 [v] = some x) : ∃ xs : List Mp, Rd peerN W v xs ∧ (∀ p ∈ xs, p.next < 18446744073709551616 ∧ p.mat < 18446744073709551616) ∧ xs.length ≤ Rows.uptoBulk x.1 :=
  slice_opened peerN ⟨0, 0, 0⟩ (fun p => p.next < 18446744073709551616 ∧ p.mat < 18446744073709551616) Tryz.underlying30 cells_peer (fun fuel cs y h hl => by
    obtain ⟨y0, y1, y2, n, _, _, g0, g1, g2⟩ := Deep.trod_struct3 Tryz.underlying71 h
    match cs, hl with
    | [v0, v1, v2], _ =>
      have g0' : DataW.trod enc Tryz.prog W 0 (fun _ => true) true n 3 [v0] = some y0 := g0
      have g1' : DataW.trod enc Tryz.prog W 0 (fun _ => true) true n 22 [v1] = some y1 := g1
      have g2' : DataW.trod enc Tryz.prog W 0 (fun _ => true) true n 22 [v2] = some y2 := g2
      obtain ⟨z0, i0, _, _⟩ := DataW.trod_int Tryz.underlying3 g0'
      obtain ⟨z1, i1, _, e1⟩ := DataW.trod_int Tryz.underlying22 g1'
      obtain ⟨z2, i2, _, e2⟩ := DataW.trod_int Tryz.underlying22 g2'
      obtain ⟨n1, rfl, l1⟩ := u64_wf e1
      obtain ⟨n2, rfl, l2⟩ := u64_wf e2
      simp only [List.cons.injEq, and_true] at i0 i1 i2
      refine ⟨⟨z0, n1, n2⟩, ?_, l1, l2⟩
      rw [i0, i1, i2]
      rfl) h
theorem ra_struct {H : Type} {enc : TypeId × Value → H} {W : World} {fuel : Nat} {cs : List Value} {x : DataW H × List MemPlace} (h : DataW.trod enc Tryz.prog W 0 (fun _ => true) true fuel 32 cs = some x) :
    ∃ y0 y1 y2 y3 y4 y5 y6 y7 y8 y9 k, x.1 = .agg [y0.1, y1.1, y2.1, y3.1, y4.1, y5.1, y6.1, y7.1, y8.1, y9.1] ∧ DataW.trod enc Tryz.prog W 0 (fun _ => true) true k 3 ((cs.drop 0).take (Tryz.prog.cellsOf 3)) = some y0 ∧ DataW.trod enc Tryz.prog W 0 (fun _ => true) true k 22 ((cs.drop 1).take (Tryz.prog.cellsOf 22)) = some y1 ∧ DataW.trod enc Tryz.prog W 0 (fun _ => true) true k 3 ((cs.drop 2).take (Tryz.prog.cellsOf 3)) = some y2 ∧ DataW.trod enc Tryz.prog W 0 (fun _ => true) true k 28 ((cs.drop 3).take (Tryz.prog.cellsOf 28)) = some y3 ∧ DataW.trod enc Tryz.prog W 0 (fun _ => true) true k 22 ((cs.drop 8).take (Tryz.prog.cellsOf 22)) = some y4 ∧ DataW.trod enc Tryz.prog W 0 (fun _ => true) true k 3 ((cs.drop 9).take (Tryz.prog.cellsOf 3)) = some y5 ∧ DataW.trod enc Tryz.prog W 0 (fun _ => true) true k 3 ((cs.drop 10).take (Tryz.prog.cellsOf 3)) = some y6 ∧ DataW.trod enc Tryz.prog W 0 (fun _ => true) true k 3 ((cs.drop 11).take (Tryz.prog.cellsOf 3)) = some y7 ∧ DataW.trod enc Tryz.prog W 0 (fun _ => true) true k 29 ((cs.drop 12).take (Tryz.prog.cellsOf 29)) = some y8 ∧ DataW.trod enc Tryz.prog W 0 (fun _ => true) true k 30 ((cs.drop 13).take (Tryz.prog.cellsOf 30)) = some y9 := by
  obtain ⟨xs, n, _, rfl, hl, hlen, hf⟩ := DataW.trod_struct Tryz.underlying32 h
  match xs, hlen with
  | [y0, y1, y2, y3, y4, y5, y6, y7, y8, y9], _ => exact ⟨y0, y1, y2, y3, y4, y5, y6, y7, y8, y9, n, by simp, by simpa using hf 0 _ rfl, by simpa using hf 1 _ rfl, by simpa using hf 2 _ rfl, by simpa using hf 3 _ rfl, by simpa using hf 4 _ rfl, by simpa using hf 5 _ rfl, by simpa using hf 6 _ rfl, by simpa using hf 7 _ rfl, by simpa using hf 8 _ rfl, by simpa using hf 9 _ rfl⟩
/-- A log's cells, opened. -/
theorem log_opened {H : Type} {enc : TypeId × Value → H} {W : World} {fuel : Nat} {v0 v1 v2 v3 v4 : Value} {x : DataW H × List MemPlace} (h : DataW.trod enc Tryz.prog W 0 (fun _ => true) true fuel 28 [v0, v1, v2, v3, v4] = some x) :
    ∃ (b : Ez) (zs : List Ez), [v0, v1, v2, v3] = entE.enc b ∧ DataV W b ∧ EntsV W v4 zs ∧ EzOk b ∧ (∀ z ∈ zs, EzOk z) ∧ b.1.data.length ≤ Rows.uptoBulk x.1 ∧ (∀ z ∈ zs, z.1.data.length ≤ Rows.uptoBulk x.1) ∧ zs.length ≤ Rows.uptoBulk x.1 := by
  obtain ⟨y0, y1, k, hxy, g0, g1⟩ := lg_struct h
  have g0' : DataW.trod enc Tryz.prog W 0 (fun _ => true) true k 25 [v0, v1, v2, v3] = some y0 := g0
  have g1' : DataW.trod enc Tryz.prog W 0 (fun _ => true) true k 26 [v4] = some y1 := g1
  obtain ⟨b, hb, hbd, hbo, hbl⟩ := entry_opened rfl g0'
  obtain ⟨zs, hE, hzs, hzl⟩ := ents_opened g1'
  have e : Rows.uptoBulk x.1 = Rows.uptoBulk y0.1 + Rows.uptoBulk y1.1 + 1 := by rw [hxy]; simp only [Rows.uptoBulk, Rows.uptoBulkAll]; omega
  refine ⟨b, zs, hb, hbd, hE, hbo, fun z hz => (hzs z hz).1, by omega, fun z hz => ?_, by omega⟩
  have := (hzs z hz).2
  omega
/-- A state that came in. -/
theorem raft_arg {H : Type} {enc : TypeId × Value → H} {W : World} {base : Nat} {v : Value} {d : DataW H} {ps : List MemPlace}
    (ho : Value.okWide Tryz.prog W .any base 32 v) (h : DataW.Trod enc Tryz.prog W 0 (fun _ => true) true 32 v d ps) (hk : Rows.uptoBulk d ≤ 1048576) :
    ∃ r : Mr, RsV W.heap.size W v r ∧ OkM r.base ∧ (∀ e ∈ r.log, OkM e) ∧ r.log.length ≤ 1048576 ∧ (∀ p ∈ r.peers, p.next < 18446744073709551616 ∧ p.mat < 18446744073709551616) ∧ r.votes.length ≤ 1048576 ∧ r.peers.length ≤ 1048576 ∧ (-9223372036854775808 ≤ r.node ∧ r.node ≤ 9223372036854775807) := by
  simp only [Value.okWide, Tryz.underlying32] at ho
  obtain ⟨cs, rfl, hsz, _⟩ := ho
  rw [cells_raft] at hsz
  obtain ⟨fuel, hf⟩ := h
  have hf' : DataW.trod enc Tryz.prog W 0 (fun _ => true) true fuel 32 cs.toList = some (d, ps) := hf
  obtain ⟨y0, y1, y2, y3, y4, y5, y6, y7, y8, y9, k, hxy, g0, g1, g2, g3, g4, g5, g6, g7, g8, g9⟩ := ra_struct hf'
  have hcl : cs.toList.length = 14 := by simpa using hsz
  match hh : cs.toList, hcl with
  | [v0, v1, v2, v3, v4, v5, v6, v7, v8, v9, v10, v11, v12, v13], _ =>
    rw [hh] at g0 g1 g2 g3 g4 g5 g6 g7 g8 g9
    have g0' : DataW.trod enc Tryz.prog W 0 (fun _ => true) true k 3 [v0] = some y0 := g0
    have g1' : DataW.trod enc Tryz.prog W 0 (fun _ => true) true k 22 [v1] = some y1 := g1
    have g2' : DataW.trod enc Tryz.prog W 0 (fun _ => true) true k 3 [v2] = some y2 := g2
    have g3' : DataW.trod enc Tryz.prog W 0 (fun _ => true) true k 28 [v3, v4, v5, v6, v7] = some y3 := g3
    have g4' : DataW.trod enc Tryz.prog W 0 (fun _ => true) true k 22 [v8] = some y4 := g4
    have g5' : DataW.trod enc Tryz.prog W 0 (fun _ => true) true k 3 [v9] = some y5 := g5
    have g6' : DataW.trod enc Tryz.prog W 0 (fun _ => true) true k 3 [v10] = some y6 := g6
    have g7' : DataW.trod enc Tryz.prog W 0 (fun _ => true) true k 3 [v11] = some y7 := g7
    have g8' : DataW.trod enc Tryz.prog W 0 (fun _ => true) true k 29 [v12] = some y8 := g8
    have g9' : DataW.trod enc Tryz.prog W 0 (fun _ => true) true k 30 [v13] = some y9 := g9
    obtain ⟨z0, i0, _, j0⟩ := DataW.trod_int Tryz.underlying3 g0'
    obtain ⟨z1, i1, _, j1⟩ := DataW.trod_int Tryz.underlying22 g1'
    obtain ⟨z2, i2, _, _⟩ := DataW.trod_int Tryz.underlying3 g2'
    obtain ⟨b, zs, hb, hbd, hE, hbo, hzo, hbl, hzd, hzl⟩ := log_opened g3'
    obtain ⟨z4, i4, _, j4⟩ := DataW.trod_int Tryz.underlying22 g4'
    obtain ⟨z5, i5, _, _⟩ := DataW.trod_int Tryz.underlying3 g5'
    obtain ⟨z6, i6, _, _⟩ := DataW.trod_int Tryz.underlying3 g6'
    obtain ⟨z7, i7, _, _⟩ := DataW.trod_int Tryz.underlying3 g7'
    obtain ⟨vt, hvt, hvl⟩ := ints_opened g8'
    obtain ⟨pe, hpe, hpr, hpl⟩ := peers_opened g9'
    have hd : d = .agg [y0.1, y1.1, y2.1, y3.1, y4.1, y5.1, y6.1, y7.1, y8.1, y9.1] := hxy
    have e : Rows.uptoBulk y3.1 + Rows.uptoBulk y8.1 + Rows.uptoBulk y9.1 ≤ Rows.uptoBulk d := by rw [hd]; simp only [Rows.uptoBulk, Rows.uptoBulkAll]; omega
    obtain ⟨n1, rfl, l1⟩ := u64_wf j1
    obtain ⟨n4, rfl, l4⟩ := u64_wf j4
    have h3 : IntKind.i64.min ≤ z0 ∧ z0 ≤ IntKind.i64.max := by simpa [Lit.wf] using j0
    simp only [List.cons.injEq, and_true] at i0 i1 i2 i4 i5 i6 i7
    obtain ⟨bm, ⟨ba, bn, bc⟩⟩ := b
    have hb' : [v3, v4, v5, v6] = [.int .u64 (bm.idx : Int), .int .u64 (bm.term : Int), .int .i64 bm.kind, .slice ba bn bc] := hb
    simp only [List.cons.injEq, and_true] at hb'
    obtain ⟨q3, q4, q5, q6⟩ := hb'
    obtain ⟨la, lc, q7, -, -⟩ := hE.1.shape
    obtain ⟨va, vc, q12, -, -⟩ := hvt.shape
    obtain ⟨pa, pc, q13, -, -⟩ := hpe.shape
    have hcs : cs = #[.int .i64 z0, .int .u64 (n1 : Int), .int .i64 z2, .int .u64 (bm.idx : Int), .int .u64 (bm.term : Int), .int .i64 bm.kind, .slice ba bn bc, .slice la zs.length lc, .int .u64 (n4 : Int), .int .i64 z5, .int .i64 z6, .int .i64 z7, .slice va vt.length vc, .slice pa pe.length pc] := by
      rw [← Array.toList_inj, hh, i0, i1, i2, q3, q4, q5, q6, q7, i4, i5, i6, i7, q12, q13]
    rw [q7] at hE
    rw [q12] at hvt
    rw [q13] at hpe
    refine ⟨⟨z0, n1, z2, bm, mes zs, n4, z5, z6, z7, vt, pe⟩, ⟨⟨⟨z0, n1, z2, bm, mes zs, n4, z5, z6, z7, vt, pe⟩, zs, (ba, bn, bc), (la, zs.length, lc), (va, vt.length, vc), (pa, pe.length, pc)⟩, by rw [hcs], rfl, hbd.toN, hE.toN, rfl, hvt.toN _, hpe.toN _⟩, ⟨hbo.1, hbo.2.1, hbo.2.2, ?_⟩, ?_, ?_, hpr, ?_, ?_, h3⟩
    · have : bm.data.length ≤ _ := hbl
      show bm.data.length ≤ _
      omega
    · exact mes_okM hzo (fun z hz => by have := hzd z hz; omega)
    · show (mes zs).length ≤ _
      rw [List.length_map]
      omega
    · show vt.length ≤ _
      omega
    · show pe.length ≤ _
      omega
end Go.Proofs.YtncoandnelgkeaaGreat


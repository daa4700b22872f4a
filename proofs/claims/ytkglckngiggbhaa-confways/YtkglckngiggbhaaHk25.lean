import Derived.Test.YtkglckngiggbhaaHk24
/- What came in: two great numbers; peers with their ranges. -/
namespace Go.Proofs.Ytkglckngiggbhaa
open Go.ChangeShapes Go.WideShapes Go.ChangeAt Go.RowKit
set_option maxRecDepth 100000
set_option linter.unusedSimpArgs false
set_option linter.unusedVariables false

theorem cells_uu : Try.prog.cellsOf 37 = 2 := by kernel_rfl
theorem cells_u64 : Try.prog.cellsOf 36 = 1 := by kernel_rfl
theorem two_u64 {H : Type} {enc : TypeId × Value → H} {W : World} {base : Nat} {v : Value} {d : DataW H} {ps : List MemPlace}
    (ho : Value.okWide Try.prog W .any base 37 v) (h : DataW.Trod enc Try.prog W 0 (fun _ => true) true 37 v d ps) :
    ∃ b0 b1 : Int, v = .agg #[.int .u64 b0, .int .u64 b1] ∧ (0 ≤ b0 ∧ b0 < 18446744073709551616) ∧ (0 ≤ b1 ∧ b1 < 18446744073709551616) := by
  simp only [Value.okWide, Try.underlying37] at ho
  obtain ⟨cs, rfl, hsz, _⟩ := ho
  rw [cells_uu] at hsz
  obtain ⟨fuel, hf⟩ := h
  have hf' : DataW.trod enc Try.prog W 0 (fun _ => true) true fuel 37 cs.toList = some (d, ps) := hf
  obtain ⟨xs, m, _, ex, _, hl, hel⟩ := DataW.trod_array Try.underlying37 hf'
  have each : ∀ i, i < 2 → ∃ b : Int, cs.toList[i]? = some (.int .u64 b) ∧ (0 ≤ b ∧ b < 18446744073709551616) := by
    intro i hi
    have hE := hel i hi
    rw [cells_u64, Nat.mul_one, List.getElem?_eq_getElem (by omega)] at hE
    obtain ⟨z, e1, e2, e3⟩ := DataW.trod_int Try.underlying36 hE
    have h3 : IntKind.u64.min ≤ z ∧ z ≤ IntKind.u64.max := by simpa [Lit.wf] using e3
    have h4 : 0 ≤ z ∧ z ≤ 18446744073709551615 := h3
    refine ⟨z, ?_, by omega⟩
    have h0 : ((cs.toList.drop i).take 1)[0]? = some (.int .u64 z) := by rw [e1]; rfl
    simpa using h0
  obtain ⟨b0, e0, k0⟩ := each 0 (by decide)
  obtain ⟨b1, e1, k1⟩ := each 1 (by decide)
  refine ⟨b0, b1, ?_, k0, k1⟩
  have hcl : cs.toList.length = 2 := by simpa using hsz
  have hcs : cs.toList = [.int .u64 b0, .int .u64 b1] := by
    match hh : cs.toList, hcl with
    | [u0, u1], _ =>
      rw [hh] at e0 e1
      simp only [List.getElem?_cons_zero, List.getElem?_cons_succ, Option.some.injEq] at e0 e1
      rw [e0, e1]
  show Value.agg cs = .agg #[.int .u64 b0, .int .u64 b1]
  congr 1
  rw [← Array.toList_inj]
  exact hcs

abbrev PrR := { p : Pr // p.2.2 < 18446744073709551616 }
def peerR : El PrR := ⟨fun p => peerE.enc p.1, 3, fun x => peerE.len x.1, fun x u hu => peerE.one x.1 u hu, by decide⟩
theorem peer_openedR {H : Type} {enc : TypeId × Value → H} {W : World} {fuel : Nat} {cs : List Value} {y : DataW H × List MemPlace}
    (h : DataW.trod enc Try.prog W 0 (fun _ => true) true fuel 45 cs = some y) (hl : cs.length = 3) : ∃ r : PrR, cs = peerR.enc r := by
  obtain ⟨y0, y1, y2, n, _, _, g0, g1, g2⟩ := Deep.trod_struct3 Try.underlying45 h
  match cs, hl with
  | [v0, v1, v2], _ =>
    have g0' : DataW.trod enc Try.prog W 0 (fun _ => true) true n 3 [v0] = some y0 := g0
    have g1' : DataW.trod enc Try.prog W 0 (fun _ => true) true n 36 [v1] = some y1 := g1
    have g2' : DataW.trod enc Try.prog W 0 (fun _ => true) true n 36 [v2] = some y2 := g2
    obtain ⟨z0, i0, _, _⟩ := DataW.trod_int Try.underlying3 g0'
    obtain ⟨z1, i1, _, _⟩ := DataW.trod_int Try.underlying36 g1'
    obtain ⟨z2, i2, _, e2⟩ := DataW.trod_int Try.underlying36 g2'
    have h3 : IntKind.u64.min ≤ z2 ∧ z2 ≤ IntKind.u64.max := by simpa [Lit.wf] using e2
    have h4 : (0 : Int) ≤ z2 ∧ z2 ≤ 18446744073709551615 := h3
    simp only [List.cons.injEq, and_true] at i0 i1 i2
    refine ⟨⟨(z0, z1, z2.toNat), by show z2.toNat < _; omega⟩, ?_⟩
    rw [i0, i1, i2]
    show _ = [Value.int .i64 z0, .int .u64 z1, .int .u64 (z2.toNat : Int)]
    rw [Int.toNat_of_nonneg h4.1]
theorem peers_argR {H : Type} {enc : TypeId × Value → H} {W : World} {base : Nat} {v : Value} {d : DataW H} {ps : List MemPlace} (hval : Value.okWide Try.prog W .any base 35 v)
    (h : DataW.Trod enc Try.prog W 0 (fun _ => true) true 35 v d ps) : ∃ l : List Pr, Rd peerE W v l ∧ (∀ p ∈ l, p.2.2 < 18446744073709551616) ∧ (l = [] ∨ ∃ el sp, d = .slice el sp ∧ el.length = l.length) := by
  obtain ⟨l, h1, h2⟩ := slice_arg peerR ⟨(0, 0, 0), by decide⟩ Try.underlying35 cells_peer (fun _ _ _ h hl => peer_openedR h hl) hval h
  refine ⟨l.map Subtype.val, ?_, fun p hp => ?_, ?_⟩
  · obtain ⟨ao, cap, e, k0, k1, k2⟩ := h1
    refine ⟨ao, cap, by rw [List.length_map]; exact e, by rw [List.length_map]; exact k0, k1, fun i x j u hx hu => ?_⟩
    rw [List.getElem?_map, Option.map_eq_some_iff] at hx
    obtain ⟨x', hx', rfl⟩ := hx
    exact k2 i x' j u hx' hu
  · obtain ⟨p', -, rfl⟩ := List.mem_map.1 hp
    exact p'.2
  · rcases h2 with rfl | ⟨el, sp, e1, e2⟩
    · exact .inl rfl
    · exact .inr ⟨el, sp, e1, by rw [List.length_map]; exact e2⟩
end Go.Proofs.Ytkglckngiggbhaa


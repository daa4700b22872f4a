import Derived.Test.YtglbjimpaoikfaaHd51
import Derived.Test.YtglbjimpaoikfaaHd18
/- What came in: a transaction's record; a say. -/
namespace Go.Proofs.Ytglbjimpaoikfaa
open Go.ChangeShapes Go.WideShapes Go.RowKit LeaseMath
set_option maxRecDepth 100000
set_option linter.unusedSimpArgs false
set_option linter.unusedVariables false

theorem slice_openedL {α : Type} (E : El α) (x0 : α) {ts t : TypeId} {H : Type} {enc : TypeId × Value → H} {W : World} (hu : Try.prog.underlying ts = some (.slice t)) (hk : Try.prog.cellsOf t = E.k)
    (hel : ∀ (fuel : Nat) (cs : List Value) (y : DataW H × List MemPlace), cs.length = E.k → DataW.trod enc Try.prog W 0 (fun _ => true) true fuel t cs = some y → ∃ z, cs = E.enc z)
    {fuel : Nat} {v : Value} {x : DataW H × List MemPlace} (h : DataW.trod enc Try.prog W 0 (fun _ => true) true fuel ts [v] = some x) : ∃ zs : List α, Rd E W v zs ∧ (zs = [] ∨ ∃ el sp, x.1 = .slice el sp ∧ el.length = zs.length) := by
  rcases Deep.open_slice hu h with ⟨hcs, hx⟩ | ⟨a, len, cap, m, n, D, Pl, hcs, _, hl, hm, hmm, hx, hc⟩
  · obtain rfl : v = .slice none 0 0 := by simpa using hcs
    exact ⟨[], ⟨none, 0, rfl, Nat.le_refl _, fun _ => rfl, fun i x j u hx => by simp at hx⟩, .inl rfl⟩
  · obtain rfl : v = .slice (some a) len cap := by simpa using hcs
    have hmc : m = cap := by rw [hmm]; rfl
    subst hmc
    have each : ∀ i, i < len → ∃ z : α, (∀ j u, (E.enc z)[j]? = some u → W.cell? (a.add (i * E.k + j)) = some u) := by
      intro i hi
      obtain ⟨cs', h1, h2⟩ := hc i (by omega)
      rw [hk] at h1
      obtain ⟨_, hlen, hcell⟩ := World.cells?_some h1
      obtain ⟨z, hs⟩ := hel _ _ _ hlen h2
      refine ⟨z, fun j u hu => ?_⟩
      have hj := (List.getElem?_eq_some_iff.1 hu).1
      rw [E.len] at hj
      have e := hcell j hj
      rw [Deep.add_add, hs, hu] at e
      exact e
    haveI : Inhabited α := ⟨x0⟩
    obtain ⟨Q, hQ⟩ := Deep.choose_lt (α := α) each
    have hzl : ((List.range len).map Q).length = len := by simp
    refine ⟨(List.range len).map Q, ⟨some a, m, by rw [hzl], by rw [hzl]; exact hl, (fun h => by cases h), fun i x j u hx' hu => ?_⟩, .inr ⟨_, _, by rw [hx], by simp⟩⟩
    have hi : i < len := by
      have := (List.getElem?_eq_some_iff.1 hx').1
      simpa using this
    have e : Q i = x := by simpa [hi] using hx'
    have g := (hQ i hi) j u (by rw [e]; exact hu)
    obtain ⟨b, off, spot⟩ := a
    have hspot : spot = none := by
      have g0 := (hQ 0 (by omega)) 0 ((E.enc (Q 0))[0]'(by rw [E.len]; exact E.pos)) (List.getElem?_eq_getElem _)
      rw [Nat.zero_mul] at g0
      simpa [Addr.add] using World.cell?_spot g0
    subst hspot
    rw [Addr.add_lit] at g
    exact ⟨b, off, rfl, g⟩
theorem cells_string : Try.prog.cellsOf 9 = 1 := by kernel_rfl
theorem cells_int : Try.prog.cellsOf 3 = 1 := by kernel_rfl
theorem cells_rec : Try.prog.cellsOf 29 = 11 := by kernel_rfl
theorem bytes_string : Try.prog.bytesOf 9 = 16 := by kernel_rfl
theorem bytes_int : Try.prog.bytesOf 3 = 8 := by kernel_rfl
theorem id_struct {H : Type} {enc : TypeId × Value → H} {W : World} {fuel : Nat} {v0 v1 : Value} {x : DataW H × List MemPlace} (h : DataW.trod enc Try.prog W 0 (fun _ => true) true fuel 24 [v0, v1] = some x) :
    ∃ d : Cq, [v0, v1] = [.int .i64 d.1, .int .u64 (d.2 : Int)] := by
  obtain ⟨xs, n, _, rfl, hl2, hlen, hf⟩ := DataW.trod_struct Try.underlying24 h
  match xs, hlen with
  | [y0, y1], _ =>
    have g0 : DataW.trod enc Try.prog W 0 (fun _ => true) true n 3 ((([v0, v1] : List Value).drop 0).take (Try.prog.cellsOf 3)) = some y0 := by simpa using hf 0 _ rfl
    have g1 : DataW.trod enc Try.prog W 0 (fun _ => true) true n 22 ((([v0, v1] : List Value).drop 1).take (Try.prog.cellsOf 22)) = some y1 := by simpa using hf 1 _ rfl
    have g0' : DataW.trod enc Try.prog W 0 (fun _ => true) true n 3 [v0] = some y0 := g0
    have g1' : DataW.trod enc Try.prog W 0 (fun _ => true) true n 22 [v1] = some y1 := g1
    obtain ⟨z0, i0, _, j0⟩ := DataW.trod_int Try.underlying3 g0'
    obtain ⟨z1, i1, _, j1⟩ := DataW.trod_int Try.underlying22 g1'
    simp only [List.cons.injEq, and_true] at i0 i1
    obtain ⟨n1, rfl, _⟩ := u64_wf j1
    exact ⟨(z0, n1), by rw [i0, i1]⟩
theorem keys_opened {H : Type} {enc : TypeId × Value → H} {W : World} {fuel : Nat} {v : Value} {x : DataW H × List MemPlace} (h : DataW.trod enc Try.prog W 0 (fun _ => true) true fuel 25 [v] = some x) : ∃ zs : List K, Rd kyE W v zs ∧ (zs = [] ∨ ∃ el sp, x.1 = .slice el sp ∧ el.length = zs.length) :=
  slice_openedL kyE [] Try.underlying25 cells_string (fun _ cs y hl h => by
    match cs, hl with
    | [v0], _ =>
      obtain ⟨s0, i0, _, _⟩ := DataW.trod_string Try.underlying9 h
      simp only [List.cons.injEq, and_true] at i0
      obtain ⟨k0, rfl⟩ := bk_of s0
      exact ⟨k0, by rw [i0]; rfl⟩) h
theorem ints_opened {H : Type} {enc : TypeId × Value → H} {W : World} {fuel : Nat} {v : Value} {x : DataW H × List MemPlace} (h : DataW.trod enc Try.prog W 0 (fun _ => true) true fuel 26 [v] = some x) : ∃ zs : List Int, Rd intE W v zs ∧ (zs = [] ∨ ∃ el sp, x.1 = .slice el sp ∧ el.length = zs.length) :=
  slice_openedL intE 0 Try.underlying26 cells_int (fun _ cs y hl h => by
    match cs, hl with
    | [v0], _ =>
      obtain ⟨z0, i0, _, _⟩ := DataW.trod_int Try.underlying3 h
      simp only [List.cons.injEq, and_true] at i0
      exact ⟨z0, by rw [i0]; rfl⟩) h
theorem len_of {H : Type} {ts : List TypeId} {ds : List (DataW H)} (h : (DataW.weightsEach Try.prog ts ds).all (· ≤ reachBytes) = true) {α : Type} {zs : List α} {j : Nat} {t e : TypeId} {d : DataW H} (ht : ts[j]? = some t) (hd : ds[j]? = some d) (hu : Try.prog.underlying t = some (.slice e)) {n : Nat} (hb : Try.prog.bytesOf e = n) (hn : 1 ≤ n) (hz : zs = [] ∨ ∃ el sp, d = .slice el sp ∧ el.length = zs.length) : zs.length ≤ 140737488355328 := by
  rcases hz with rfl | ⟨el, sp, rfl, hl⟩
  · simp
  · have h9 := sized_slice h ht hd hu
    rw [hb] at h9
    unfold reachBytes at h9
    have h8 : zs.length * 1 ≤ (el.length + sp.length) * n := Nat.mul_le_mul (by omega) hn
    omega
theorem inner_of {H : Type} {ts us : List TypeId} {ds es : List (DataW H)} (h : (DataW.weightsEach Try.prog ts ds).all (· ≤ reachBytes) = true) {j : Nat} {t : TypeId} {fs : Array Field} (ht : ts[j]? = some t) (hd : ds[j]? = some (.agg es)) (hu : Try.prog.underlying t = some (.struct fs)) (he : fs.toList.map (·.type) = us) : (DataW.weightsEach Try.prog us es).all (· ≤ reachBytes) = true := by
  refine List.all_eq_true.2 fun n hn => List.all_eq_true.1 h n (DataW.weights_mem_each ht hd n ?_)
  simp only [DataW.weights, hu]
  rw [he]
  exact hn
/-- A record that came in. -/
theorem rec_arg {H : Type} {enc : TypeId × Value → H} {W : World} {base : Nat} {v : Value} {d : DataW H} {ps : List MemPlace}
    (ho : Value.okWide Try.prog W .any base 29 v) (h : DataW.Trod enc Try.prog W 0 (fun _ => true) true 29 v d ps) :
    ∃ z : Xz, v = xv z ∧ XR W z ∧ ∀ {ts : List TypeId} {ds : List (DataW H)} {j : Nat}, (DataW.weightsEach Try.prog ts ds).all (· ≤ reachBytes) = true → ts[j]? = some 29 → ds[j]? = some d → z.t.keys.length ≤ 140737488355328 ∧ z.t.groups.length ≤ 140737488355328 ∧ z.t.yes.length ≤ 140737488355328 ∧ z.t.done.length ≤ 140737488355328 := by
  simp only [Value.okWide, Try.underlying29] at ho
  obtain ⟨cs, rfl, hsz, _⟩ := ho
  rw [cells_rec] at hsz
  obtain ⟨fuel, hf⟩ := h
  have hf' : DataW.trod enc Try.prog W 0 (fun _ => true) true fuel 29 cs.toList = some (d, ps) := hf
  obtain ⟨xs, n, _, hxy, hl2, hlen, hg⟩ := DataW.trod_struct Try.underlying29 hf'
  have hcl : cs.toList.length = 11 := by simpa using hsz
  match hh : cs.toList, hcl, xs, hlen with
  | [v0, v1, v2, v3, v4, v5, v6, v7, v8, v9, v10], _, [y0, y1, y2, y3, y4, y5, y6, y7, y8, y9], _ =>
    rw [hh] at hg
    have g0 : DataW.trod enc Try.prog W 0 (fun _ => true) true n 24 ((([v0, v1, v2, v3, v4, v5, v6, v7, v8, v9, v10] : List Value).drop 0).take (Try.prog.cellsOf 24)) = some y0 := by simpa using hg 0 _ rfl
    have g1 : DataW.trod enc Try.prog W 0 (fun _ => true) true n 3 ((([v0, v1, v2, v3, v4, v5, v6, v7, v8, v9, v10] : List Value).drop 2).take (Try.prog.cellsOf 3)) = some y1 := by simpa using hg 1 _ rfl
    have g2 : DataW.trod enc Try.prog W 0 (fun _ => true) true n 25 ((([v0, v1, v2, v3, v4, v5, v6, v7, v8, v9, v10] : List Value).drop 3).take (Try.prog.cellsOf 25)) = some y2 := by simpa using hg 2 _ rfl
    have g3 : DataW.trod enc Try.prog W 0 (fun _ => true) true n 22 ((([v0, v1, v2, v3, v4, v5, v6, v7, v8, v9, v10] : List Value).drop 4).take (Try.prog.cellsOf 22)) = some y3 := by simpa using hg 3 _ rfl
    have g4 : DataW.trod enc Try.prog W 0 (fun _ => true) true n 3 ((([v0, v1, v2, v3, v4, v5, v6, v7, v8, v9, v10] : List Value).drop 5).take (Try.prog.cellsOf 3)) = some y4 := by simpa using hg 4 _ rfl
    have g5 : DataW.trod enc Try.prog W 0 (fun _ => true) true n 26 ((([v0, v1, v2, v3, v4, v5, v6, v7, v8, v9, v10] : List Value).drop 6).take (Try.prog.cellsOf 26)) = some y5 := by simpa using hg 5 _ rfl
    have g6 : DataW.trod enc Try.prog W 0 (fun _ => true) true n 3 ((([v0, v1, v2, v3, v4, v5, v6, v7, v8, v9, v10] : List Value).drop 7).take (Try.prog.cellsOf 3)) = some y6 := by simpa using hg 6 _ rfl
    have g7 : DataW.trod enc Try.prog W 0 (fun _ => true) true n 26 ((([v0, v1, v2, v3, v4, v5, v6, v7, v8, v9, v10] : List Value).drop 8).take (Try.prog.cellsOf 26)) = some y7 := by simpa using hg 7 _ rfl
    have g8 : DataW.trod enc Try.prog W 0 (fun _ => true) true n 26 ((([v0, v1, v2, v3, v4, v5, v6, v7, v8, v9, v10] : List Value).drop 9).take (Try.prog.cellsOf 26)) = some y8 := by simpa using hg 8 _ rfl
    have g9 : DataW.trod enc Try.prog W 0 (fun _ => true) true n 27 ((([v0, v1, v2, v3, v4, v5, v6, v7, v8, v9, v10] : List Value).drop 10).take (Try.prog.cellsOf 27)) = some y9 := by simpa using hg 9 _ rfl
    have g0' : DataW.trod enc Try.prog W 0 (fun _ => true) true n 24 [v0, v1] = some y0 := g0
    have g1' : DataW.trod enc Try.prog W 0 (fun _ => true) true n 3 [v2] = some y1 := g1
    have g2' : DataW.trod enc Try.prog W 0 (fun _ => true) true n 25 [v3] = some y2 := g2
    have g3' : DataW.trod enc Try.prog W 0 (fun _ => true) true n 22 [v4] = some y3 := g3
    have g4' : DataW.trod enc Try.prog W 0 (fun _ => true) true n 3 [v5] = some y4 := g4
    have g5' : DataW.trod enc Try.prog W 0 (fun _ => true) true n 26 [v6] = some y5 := g5
    have g6' : DataW.trod enc Try.prog W 0 (fun _ => true) true n 3 [v7] = some y6 := g6
    have g7' : DataW.trod enc Try.prog W 0 (fun _ => true) true n 26 [v8] = some y7 := g7
    have g8' : DataW.trod enc Try.prog W 0 (fun _ => true) true n 26 [v9] = some y8 := g8
    have g9' : DataW.trod enc Try.prog W 0 (fun _ => true) true n 27 [v10] = some y9 := g9
    obtain ⟨q, i0⟩ := id_struct g0'
    obtain ⟨z1, i1, _, j1⟩ := DataW.trod_int Try.underlying3 g1'
    obtain ⟨l2, r2, m2⟩ := keys_opened g2'
    obtain ⟨z3, i3, _, j3⟩ := DataW.trod_int Try.underlying22 g3'
    obtain ⟨z4, i4, _, j4⟩ := DataW.trod_int Try.underlying3 g4'
    obtain ⟨l5, r5, m5⟩ := ints_opened g5'
    obtain ⟨z6, i6, _, j6⟩ := DataW.trod_int Try.underlying3 g6'
    obtain ⟨l7, r7, m7⟩ := ints_opened g7'
    obtain ⟨l8, r8, m8⟩ := ints_opened g8'
    obtain ⟨z9, i9, _, j9⟩ := DataW.trod_int Try.underlying27 g9'
    simp only [List.cons.injEq, and_true] at i0 i1 i3 i4 i6 i9
    obtain ⟨n3, rfl, _⟩ := u64_wf j3
    obtain ⟨e0, e1⟩ := i0
    obtain ⟨a2, c2, s2, -, -⟩ := r2.shape
    obtain ⟨a5, c5, s5, -, -⟩ := r5.shape
    obtain ⟨a7, c7, s7, -, -⟩ := r7.shape
    obtain ⟨a8, c8, s8, -, -⟩ := r8.shape
    subst e0 e1 i1 s2 i3 i4 s5 i6 s7 s8 i9
    have hcs : cs = #[.int .i64 q.1, .int .u64 (q.2 : Int), .int .i64 z1, .slice a2 l2.length c2, .int .u64 (n3 : Int), .int .i64 z4, .slice a5 l5.length c5, .int .i64 z6, .slice a7 l7.length c7, .slice a8 l8.length c8, .int .i64 z9] := by
      rw [← Array.toList_inj, hh]
    refine ⟨⟨⟨q, z1, l2, n3, z4, l5, z6, l7, l8, z9⟩, (a2, c2), (a5, c5), (a7, c7), (a8, c8)⟩, by rw [hcs], ⟨r2, r5, r7, r8⟩, fun {ts ds j} hw ht hd => ?_⟩
    have hxd : d = .agg [y0.1, y1.1, y2.1, y3.1, y4.1, y5.1, y6.1, y7.1, y8.1, y9.1] := by have := congrArg Prod.fst hxy; simpa using this
    rw [hxd] at hd
    have hi := inner_of hw ht hd Try.underlying29 (us := [24, 3, 25, 22, 3, 26, 3, 26, 26, 27]) rfl
    exact ⟨len_of hi (j := 2) rfl rfl Try.underlying25 bytes_string (by decide) m2, len_of hi (j := 5) rfl rfl Try.underlying26 bytes_int (by decide) m5, len_of hi (j := 7) rfl rfl Try.underlying26 bytes_int (by decide) m7, len_of hi (j := 8) rfl rfl Try.underlying26 bytes_int (by decide) m8⟩
theorem cells_say : Try.prog.cellsOf 47 = 4 := by kernel_rfl
end Go.Proofs.Ytglbjimpaoikfaa


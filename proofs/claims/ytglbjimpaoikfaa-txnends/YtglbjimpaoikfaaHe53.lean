import Derived.Test.YtglbjimpaoikfaaHe52
import Derived.Test.YtglbjimpaoikfaaHe18
/- What came in: a transaction's record; a say. -/
namespace Go.Proofs.Ytglbjimpaoikfaa
open Go.ChangeShapes Go.WideShapes Go.RowKit LeaseMath
set_option maxRecDepth 100000
set_option linter.unusedSimpArgs false
set_option linter.unusedVariables false

theorem slice_openedL {α : Type} (E : El α) (x0 : α) {ts t : TypeId} {H : Type} {enc : TypeId × Value → H} {W : World} (hu : Try.prog.underlying ts = some (.slice t)) (hk : Try.prog.cellsOf t = E.k)
    (hel : ∀ (fuel : Nat) (cs : List Value) (y : DataW H × List MemPlace), cs.length = E.k → DataW.trod enc Try.prog W 0 (fun _ => true) true fuel t cs = some y → ∃ z, cs = E.enc z)
    {fuel : Nat} {v : Value} {x : DataW H × List MemPlace} (h : DataW.trod enc Try.prog W 0 (fun _ => true) true fuel ts [v] = some x) : ∃ zs : List α, Rd E W v zs ∧ (zs = [] ∨ ∃ el sp, x.1 = .slice el sp ∧ el.length = zs.length) := by
  rcases Deep.open_slice hu h with ⟨hcs, hx⟩ | ⟨a, len, cap, m, n, D, Pl, hcs, _, hl, hm, hmm, hx, hc⟩
  · obtain rfl : v = .slice none 0 0 := by simpa using hcs
    exact ⟨[], ⟨none, 0, rfl, Nat.le_refl _, fun _ => rfl, fun i x j u hx => by simp at hx⟩, .inl rfl⟩
  · obtain rfl : v = .slice (some a) len cap := by simpa using hcs
    have hmc : m = cap := by rw [hmm]; rfl
    subst hmc
    have each : ∀ i, i < len → ∃ z : α, (∀ j u, (E.enc z)[j]? = some u → W.cell? (a.add (i * E.k + j)) = some u) := by
      intro i hi
      obtain ⟨cs', h1, h2⟩ := hc i (by omega)
      rw [hk] at h1
      obtain ⟨_, hlen, hcell⟩ := World.cells?_some h1
      obtain ⟨z, hs⟩ := hel _ _ _ hlen h2
      refine ⟨z, fun j u hu => ?_⟩
      have hj := (List.getElem?_eq_some_iff.1 hu).1
      rw [E.len] at hj
      have e := hcell j hj
      rw [Deep.add_add, hs, hu] at e
      exact e
    haveI : Inhabited α := ⟨x0⟩
    obtain ⟨Q, hQ⟩ := Deep.choose_lt (α := α) each
    have hzl : ((List.range len).map Q).length = len := by simp
    refine ⟨(List.range len).map Q, ⟨some a, m, by rw [hzl], by rw [hzl]; exact hl, (fun h => by cases h), fun i x j u hx' hu => ?_⟩, .inr ⟨_, _, by rw [hx], by simp⟩⟩
    have hi : i < len := by
      have := (List.getElem?_eq_some_iff.1 hx').1
      simpa using this
    have e : Q i = x := by simpa [hi] using hx'
    have g := (hQ i hi) j u (by rw [e]; exact hu)
    obtain ⟨b, off, spot⟩ := a
    have hspot : spot = none := by
      have g0 := (hQ 0 (by omega)) 0 ((E.enc (Q 0))[0]'(by rw [E.len]; exact E.pos)) (List.getElem?_eq_getElem _)
      rw [Nat.zero_mul] at g0
      simpa [Addr.add] using World.cell?_spot g0
    subst hspot
    rw [Addr.add_lit] at g
    exact ⟨b, off, rfl, g⟩
theorem cells_string : Try.prog.cellsOf 9 = 1 := by kernel_rfl
theorem bytes_string : Try.prog.bytesOf 9 = 16 := by kernel_rfl
theorem id_struct {H : Type} {enc : TypeId × Value → H} {W : World} {fuel : Nat} {v0 v1 : Value} {x : DataW H × List MemPlace} (h : DataW.trod enc Try.prog W 0 (fun _ => true) true fuel 24 [v0, v1] = some x) :
    ∃ d : Cq, [v0, v1] = [.int .i64 d.1, .int .u64 (d.2 : Int)] := by
  obtain ⟨xs, n, _, rfl, hl2, hlen, hf⟩ := DataW.trod_struct Try.underlying24 h
  match xs, hlen with
  | [y0, y1], _ =>
    have g0 : DataW.trod enc Try.prog W 0 (fun _ => true) true n 3 ((([v0, v1] : List Value).drop 0).take (Try.prog.cellsOf 3)) = some y0 := by simpa using hf 0 _ rfl
    have g1 : DataW.trod enc Try.prog W 0 (fun _ => true) true n 22 ((([v0, v1] : List Value).drop 1).take (Try.prog.cellsOf 22)) = some y1 := by simpa using hf 1 _ rfl
    have g0' : DataW.trod enc Try.prog W 0 (fun _ => true) true n 3 [v0] = some y0 := g0
    have g1' : DataW.trod enc Try.prog W 0 (fun _ => true) true n 22 [v1] = some y1 := g1
    obtain ⟨z0, i0, _, j0⟩ := DataW.trod_int Try.underlying3 g0'
    obtain ⟨z1, i1, _, j1⟩ := DataW.trod_int Try.underlying22 g1'
    simp only [List.cons.injEq, and_true] at i0 i1
    obtain ⟨n1, rfl, _⟩ := u64_wf j1
    exact ⟨(z0, n1), by rw [i0, i1]⟩
theorem keys_opened {H : Type} {enc : TypeId × Value → H} {W : World} {fuel : Nat} {v : Value} {x : DataW H × List MemPlace} (h : DataW.trod enc Try.prog W 0 (fun _ => true) true fuel 25 [v] = some x) : ∃ zs : List K, Rd kyE W v zs ∧ (zs = [] ∨ ∃ el sp, x.1 = .slice el sp ∧ el.length = zs.length) :=
  slice_openedL kyE [] Try.underlying25 cells_string (fun _ cs y hl h => by
    match cs, hl with
    | [v0], _ =>
      obtain ⟨s0, i0, _, _⟩ := DataW.trod_string Try.underlying9 h
      simp only [List.cons.injEq, and_true] at i0
      obtain ⟨k0, rfl⟩ := bk_of s0
      exact ⟨k0, by rw [i0]; rfl⟩) h
theorem inner_of {H : Type} {ts us : List TypeId} {ds es : List (DataW H)} (h : (DataW.weightsEach Try.prog ts ds).all (· ≤ reachBytes) = true) {j : Nat} {t : TypeId} {fs : Array Field} (ht : ts[j]? = some t) (hd : ds[j]? = some (.agg es)) (hu : Try.prog.underlying t = some (.struct fs)) (he : fs.toList.map (·.type) = us) : (DataW.weightsEach Try.prog us es).all (· ≤ reachBytes) = true := by
  refine List.all_eq_true.2 fun n hn => List.all_eq_true.1 h n (DataW.weights_mem_each ht hd n ?_)
  simp only [DataW.weights, hu]
  rw [he]
  exact hn
end Go.Proofs.Ytglbjimpaoikfaa

/- An id, a call, two numbers that came in. -/
namespace Go.Proofs.Ytglbjimpaoikfaa
open Go.ChangeShapes Go.WideShapes Go.RowKit LeaseMath
set_option maxRecDepth 100000
set_option linter.unusedSimpArgs false
set_option linter.unusedVariables false

theorem call_struct {H : Type} {enc : TypeId × Value → H} {W : World} {fuel : Nat} {v0 v1 v2 v3 : Value} {x : DataW H × List MemPlace} (h : DataW.trod enc Try.prog W 0 (fun _ => true) true fuel 43 [v0, v1, v2, v3] = some x) :
    ∃ (c : Cl) (a : Sa) (yk : DataW H) (y0 y2 y3 : DataW H), [v0, v1, v2, v3] = [.int .i64 c.kind, .slice a.1 c.keys.length a.2, .int .u64 (c.token : Int), .int .i64 c.ttl] ∧ Rd kyE W (.slice a.1 c.keys.length a.2) c.keys ∧ x.1 = .agg [y0, yk, y2, y3] ∧ (c.keys = [] ∨ ∃ el sp, yk = .slice el sp ∧ el.length = c.keys.length) := by
  obtain ⟨xs, n, _, hxy, hl2, hlen, hf⟩ := DataW.trod_struct Try.underlying43 h
  match xs, hlen with
  | [y0, y1, y2, y3], _ =>
    have g0 : DataW.trod enc Try.prog W 0 (fun _ => true) true n 3 ((([v0, v1, v2, v3] : List Value).drop 0).take (Try.prog.cellsOf 3)) = some y0 := by simpa using hf 0 _ rfl
    have g1 : DataW.trod enc Try.prog W 0 (fun _ => true) true n 25 ((([v0, v1, v2, v3] : List Value).drop 1).take (Try.prog.cellsOf 25)) = some y1 := by simpa using hf 1 _ rfl
    have g2 : DataW.trod enc Try.prog W 0 (fun _ => true) true n 22 ((([v0, v1, v2, v3] : List Value).drop 2).take (Try.prog.cellsOf 22)) = some y2 := by simpa using hf 2 _ rfl
    have g3 : DataW.trod enc Try.prog W 0 (fun _ => true) true n 3 ((([v0, v1, v2, v3] : List Value).drop 3).take (Try.prog.cellsOf 3)) = some y3 := by simpa using hf 3 _ rfl
    have g0' : DataW.trod enc Try.prog W 0 (fun _ => true) true n 3 [v0] = some y0 := g0
    have g2' : DataW.trod enc Try.prog W 0 (fun _ => true) true n 22 [v2] = some y2 := g2
    have g3' : DataW.trod enc Try.prog W 0 (fun _ => true) true n 3 [v3] = some y3 := g3
    obtain ⟨z0, i0, _, _⟩ := DataW.trod_int Try.underlying3 g0'
    obtain ⟨l1, r1, m1⟩ := keys_opened (v := v1) (x := y1) g1
    obtain ⟨z2, i2, _, j2⟩ := DataW.trod_int Try.underlying22 g2'
    obtain ⟨z3, i3, _, _⟩ := DataW.trod_int Try.underlying3 g3'
    simp only [List.cons.injEq, and_true] at i0 i2 i3
    obtain ⟨n2, rfl, _⟩ := u64_wf j2
    obtain ⟨a1, c1, q1, -, -⟩ := r1.shape
    subst i0 i2 i3 q1
    exact ⟨⟨z0, l1, n2, z3⟩, (a1, c1), y1.1, y0.1, y2.1, y3.1, rfl, r1, by have := congrArg Prod.fst hxy; simpa using this, m1⟩
theorem cells_id : Try.prog.cellsOf 24 = 2 := by kernel_rfl
theorem id_arg {H : Type} {enc : TypeId × Value → H} {W : World} {base : Nat} {v : Value} {d : DataW H} {ps : List MemPlace}
    (ho : Value.okWide Try.prog W .any base 24 v) (h : DataW.Trod enc Try.prog W 0 (fun _ => true) true 24 v d ps) :
    ∃ c : Cq, v = idv c := by
  simp only [Value.okWide, Try.underlying24] at ho
  obtain ⟨cs, rfl, hsz, _⟩ := ho
  rw [cells_id] at hsz
  obtain ⟨fuel, hf⟩ := h
  have hf' : DataW.trod enc Try.prog W 0 (fun _ => true) true fuel 24 cs.toList = some (d, ps) := hf
  have hcl : cs.toList.length = 2 := by simpa using hsz
  match hh : cs.toList, hcl with
  | [v0, v1], _ =>
    rw [hh] at hf'
    obtain ⟨q, hq⟩ := id_struct hf'
    refine ⟨q, ?_⟩
    show Value.agg cs = .agg _
    congr 1
    rw [← Array.toList_inj, hh, hq]
theorem cells_callE : Try.prog.cellsOf 43 = 4 := by kernel_rfl
theorem call_argE {H : Type} {enc : TypeId × Value → H} {W : World} {base : Nat} {v : Value} {d : DataW H} {ps : List MemPlace}
    (ho : Value.okWide Try.prog W .any base 43 v) (h : DataW.Trod enc Try.prog W 0 (fun _ => true) true 43 v d ps) :
    ∃ (c : Cl) (a : Sa), v = cv c a ∧ Rd kyE W (.slice a.1 c.keys.length a.2) c.keys ∧ ∀ {ts : List TypeId} {ds : List (DataW H)} {j : Nat}, (DataW.weightsEach Try.prog ts ds).all (· ≤ reachBytes) = true → ts[j]? = some 43 → ds[j]? = some d → c.keys.length * 16 ≤ 140737488355328 := by
  simp only [Value.okWide, Try.underlying43] at ho
  obtain ⟨cs, rfl, hsz, _⟩ := ho
  rw [cells_callE] at hsz
  obtain ⟨fuel, hf⟩ := h
  have hf' : DataW.trod enc Try.prog W 0 (fun _ => true) true fuel 43 cs.toList = some (d, ps) := hf
  have hcl : cs.toList.length = 4 := by simpa using hsz
  match hh : cs.toList, hcl with
  | [v0, v1, v2, v3], _ =>
    rw [hh] at hf'
    obtain ⟨c, a, yk, u0, u2, u3, i1, r1, hx1, m1⟩ := call_struct hf'
    simp only [List.cons.injEq, and_true] at i1
    obtain ⟨e0, e1, e2, e3⟩ := i1
    subst e0 e1 e2 e3
    have hcs : cs = #[.int .i64 c.kind, .slice a.1 c.keys.length a.2, .int .u64 (c.token : Int), .int .i64 c.ttl] := by
      rw [← Array.toList_inj, hh]
    refine ⟨c, a, by rw [hcs], r1, fun {ts ds j} hw ht hd => ?_⟩
    have hxd : d = .agg [u0, yk, u2, u3] := hx1
    rw [hxd] at hd
    have hj := inner_of hw ht hd Try.underlying43 (us := [3, 25, 22, 3]) rfl
    rcases m1 with e | ⟨el, sp, e, hl⟩
    · rw [e]; simp
    · have h9 := sized_slice hj (j := 1) (t := 25) (e := 9) (elems := el) (spare := sp) rfl (by rw [← e]; rfl) Try.underlying25
      rw [bytes_string] at h9
      unfold reachBytes at h9
      have h8 : c.keys.length * 16 ≤ (el.length + sp.length) * 16 := Nat.mul_le_mul_right _ (by omega)
      omega
theorem cells_u16 : Try.prog.cellsOf 56 = 1 := by kernel_rfl
theorem cells_two16 : Try.prog.cellsOf 57 = 2 := by kernel_rfl
theorem two_u16 {H : Type} {enc : TypeId × Value → H} {W : World} {base : Nat} {v : Value} {d : DataW H} {ps : List MemPlace}
    (ho : Value.okWide Try.prog W .any base 57 v) (h : DataW.Trod enc Try.prog W 0 (fun _ => true) true 57 v d ps) :
    ∃ b0 b1 : Nat, v = .agg #[.int .u16 (b0 : Int), .int .u16 (b1 : Int)] ∧ b0 < 65536 ∧ b1 < 65536 := by
  simp only [Value.okWide, Try.underlying57] at ho
  obtain ⟨cs, rfl, hsz, _⟩ := ho
  rw [cells_two16] at hsz
  obtain ⟨fuel, hf⟩ := h
  have hf' : DataW.trod enc Try.prog W 0 (fun _ => true) true fuel 57 cs.toList = some (d, ps) := hf
  obtain ⟨xs, m, _, ex, _, hl, hel⟩ := DataW.trod_array Try.underlying57 hf'
  have each : ∀ i, i < 2 → ∃ b : Nat, cs.toList[i]? = some (.int .u16 (b : Int)) ∧ b < 65536 := by
    intro i hi
    have hE := hel i hi
    rw [cells_u16, Nat.mul_one, List.getElem?_eq_getElem (by omega)] at hE
    obtain ⟨z, e1, e2, e3⟩ := DataW.trod_int Try.underlying56 hE
    have h3 : IntKind.u16.min ≤ z ∧ z ≤ IntKind.u16.max := by simpa [Lit.wf] using e3
    have h4 : 0 ≤ z ∧ z ≤ 65535 := h3
    have h0 : ((cs.toList.drop i).take 1)[0]? = some (.int .u16 z) := by rw [e1]; rfl
    refine ⟨z.toNat, ?_, by omega⟩
    rw [Int.toNat_of_nonneg h4.1]
    simpa using h0
  obtain ⟨b0, e0, k0⟩ := each 0 (by decide)
  obtain ⟨b1, e1, k1⟩ := each 1 (by decide)
  refine ⟨b0, b1, ?_, k0, k1⟩
  have hcl : cs.toList.length = 2 := by simpa using hsz
  have hcs : cs.toList = [.int .u16 (b0 : Int), .int .u16 (b1 : Int)] := by
    match hh : cs.toList, hcl with
    | [v0, v1], _ =>
      rw [hh] at e0 e1
      simp only [List.getElem?_cons_zero, List.getElem?_cons_succ, Option.some.injEq] at e0 e1
      rw [e0, e1]
  rw [show cs = #[.int .u16 (b0 : Int), .int .u16 (b1 : Int)] from Array.toList_inj.1 hcs]
end Go.Proofs.Ytglbjimpaoikfaa


import Derived.Test.YtlgnnfhnkfjafaaHp20
import Derived.Test.YtlgnnfhnkfjafaaHp21
/- The contracts of placeOf, Find, New, Version; of the document's own Find, Version. -/
namespace Go.Proofs.Ytlgnnfhnkfjafaa
open Go.RowKit SpanMath ChartMath
set_option maxRecDepth 100000
set_option linter.unusedSimpArgs false
set_option linter.unusedVariables false

theorem place1_of {w : World} {q : Nat} {k : K} (hq : w.cell? ⟨q, 0, none⟩ = some (.string (bk k))) (r : Rg) :
    Calls Try.prog 50 #[rv r, .pointer (some ⟨q, 0, none⟩)] w fun e w' => e = .returned (.bool (hasP r.1 k)) ∧ Below w.heap.size w w' := by
  have hql := World.block_lt_of_cell? w _ hq
  dsimp only at hql
  obtain ⟨⟨a, b⟩, g, ep⟩ := r
  obtain ⟨hs0, g0, hbb⟩ := one_box w (.cells #[.string (bk a), .string (bk b), .int .i64 g, .int .u64 ep] 47)
  have kh : Calls Try.prog 48 #[.agg #[.string (bk a), .string (bk b)], .string (bk k)] _ _ := has_of (a, b) k (w.alloc (.cells #[.string (bk a), .string (bk b), .int .i64 g, .int .u64 ep] 47))
  have hq2 := (hbb.cell (p := ⟨q, 0, none⟩) hql).trans hq
  go_enter Try.func50, Try.ntmps50
  go_wp2_with fail
  refine kh.mono ?_
  rintro e w1 ⟨rfl, hb1⟩
  go_wp2
  go_ret
  exact ⟨rfl, hbb.trans (hb1.mono (by simp))⟩

/-- Where the first stands that has the key. -/
def firstR (k : K) : List Rg → Nat → Option Nat
  | [], _ => none
  | x :: l, j => if hasP x.1 k then some j else firstR k l (j + 1)
def idxI : Option Nat → Int
  | none => -1
  | some i => (i : Int)
theorem firstR_at {k : K} {l : List Rg} {i : Nat} {s : Rg} (hs : l[i]? = some s) : firstR k (l.drop i) i = if hasP s.1 k then some i else firstR k (l.drop (i + 1)) (i + 1) := by
  obtain ⟨h, rfl⟩ := List.getElem?_eq_some_iff.1 hs
  rw [List.drop_eq_getElem_cons h, firstR]
theorem firstR_place {k : K} (hk : k.length ≤ 64) : ∀ (l : List Rg) (j : Nat), (∀ r ∈ l, rOk r = true) → firstR k l j = (place l k).map (· + j)
  | [], j, _ => by simp [firstR, place]
  | r :: l, j, h => by
    have hr := h r (by simp)
    have e : hasP r.1 k = has r.1 k := by
      simp only [rOk, Bool.and_eq_true] at hr
      simp [hasP, hr.1.1, hk]
    rw [firstR, e, firstR_place hk l (j + 1) (fun x hx => h x (List.mem_cons_of_mem _ hx))]
    unfold place
    rw [List.findIdx?_cons]
    cases has r.1 k with
    | true => simp
    | false =>
      simp only [Bool.false_eq_true, if_false, Option.map_map]
      congr 1
      funext x
      simp only [Function.comp]
      omega

set_option maxHeartbeats 2000000 in
theorem cindex_of {w : World} {lv : Value} {l : List Rg} (hF : Cv w lv l) {q : Nat} {k : K} (hq : w.cell? ⟨q, 0, none⟩ = some (.string (bk k))) (hlen : l.length ≤ 1000000) :
    Calls Try.prog 49 #[lv, .func (.func 50) #[] #[.pointer (some ⟨q, 0, none⟩)]] w fun e w' => e = .returned (.int .i64 (idxI (firstR k l 0))) ∧ Below w.heap.size w w' := by
  obtain ⟨ao, cap, rfl, h2⟩ := id hF
  have hql := World.block_lt_of_cell? w _ hq
  dsimp only at hql
  have hqW : ∀ W, Below w.heap.size w W → W.cell? ⟨q, 0, none⟩ = some (.string (bk k)) := fun W hW => (hW.cell (p := ⟨q, 0, none⟩) hql).trans hq
  go_enter Try.func49, Try.ntmps49
  go_wp2
  go_loopg [8] l.length (fun g s8 wr => ∃ i : Nat, i + g = l.length ∧ s8 = .int .i64 (i : Int) ∧ Below w.heap.size w wr ∧ Hid (firstR k (l.drop i) i = firstR k l 0))
  case atStart => exact ⟨0, by simp, rfl, Below.refl _ _, rfl⟩
  case round =>
    obtain ⟨i, hig, rfl, hb, HF⟩ := hrel
    by_cases hlt : i < l.length
    · have hlti : (i : Int) < (l.length : Int) := by omega
      have hx : l[i]? = some l[i] := List.getElem?_eq_getElem hlt
      obtain ⟨b, off, rfl, d0, d1, d2, d3⟩ := h2 i l[i] hx
      obtain ⟨s, hs⟩ : ∃ s, s = l[i] := ⟨_, rfl⟩
      rw [← hs] at hx d0 d1 d2 d3
      have HN : Hid ((if hasP s.1 k then some i else firstR k (l.drop (i + 1)) (i + 1)) = firstR k l 0) := by show _ = _; rw [← HF.out, firstR_at hx]
      have kf := place1_of (hqW wr hb) s
      obtain ⟨⟨s1, s2⟩, sg, se⟩ := s
      have hlb := World.block_lt_of_cell? w _ d0
      have c0 := (hb.cell (p := ⟨b, off + i * 4, none⟩) hlb).trans d0
      have c1 := (hb.cell (p := ⟨b, off + i * 4 + 1, none⟩) hlb).trans d1
      have c2 := (hb.cell (p := ⟨b, off + i * 4 + 2, none⟩) hlb).trans d2
      have c3 := (hb.cell (p := ⟨b, off + i * 4 + 3, none⟩) hlb).trans d3
      clear hx hs d0 d1 d2 d3 HF h2 hF hqW hq
      dsimp only at HN
      cases hh : hasP (s1, s2) k with
      | true =>
        rw [hh] at kf
        have HR : Hid (firstR k l 0 = some i) := by show _ = _; rw [← HN.out, hh]; rfl
        clear HN hh
        go_wp2_with (go_at_call 50; refine kf.mono ?_; rintro e wc ⟨rfl, hbc⟩)
        go_ret
        exact ⟨by rw [HR.out]; rfl, hb.trans (hbc.mono hb.size)⟩
      | false =>
        rw [hh] at kf
        have HR : Hid (firstR k (l.drop (i + 1)) (i + 1) = firstR k l 0) := by show _ = _; rw [← HN.out, hh]; rfl
        clear HN hh
        go_wp2_with (go_at_call 50; refine kf.mono ?_; rintro e wc ⟨rfl, hbc⟩)
        go_roundg (gk - 1)
        case measure => omega
        case rel => exact ⟨i + 1, by omega, by go_num, hb.trans (hbc.mono hb.size), HR⟩
    · have hlti : ¬ (i : Int) < (l.length : Int) := by omega
      have HR : Hid (firstR k l 0 = none) := by show _ = _; rw [← HF.out, List.drop_eq_nil_of_le (by omega)]; rfl
      clear h2 HF hF hqW
      go_wp2
      go_ret
      exact ⟨by rw [HR.out]; rfl, hb⟩

theorem placeOf_of {w : World} {lv : Value} {l : List Rg} {k : K} {i : Nat} (hF : Cv w lv l) (hC : Chart l) (hk : k.length ≤ 64) (hp : place l k = some i) :
    Calls Try.prog 37 #[lv, .string (bk k)] w fun e w' => e = .returned (.int .i64 (i : Int)) ∧ Below w.heap.size w w' := by
  have hf : firstR k l 0 = some i := by rw [firstR_place hk l 0 hC.ok, hp]; rfl
  obtain ⟨hs0, g0, hbb⟩ := one_box w (.cells #[.string (bk k)] 9)
  have ki := cindex_of (hF.below hbb) (q := w.heap.size) (k := k) (by rw [cells_of_block g0]; rfl) (by have := hC.len; omega)
  rw [hf] at ki
  simp only [idxI] at ki
  obtain ⟨ao, cap, rfl, -⟩ := id hF
  clear hf hp hF hC
  go_enter Try.func37, Try.ntmps37
  go_wp2_with fail
  refine ki.mono ?_
  rintro e w1 ⟨rfl, hb1⟩
  go_wp2
  go_ret
  exact ⟨rfl, hbb.trans (hb1.mono (by simp))⟩

/-- What Find tells. -/
def findV : Option Nat → Value
  | none => .tuple #[.int .i64 0, .int .i64 1]
  | some i => .tuple #[.int .i64 (i : Int), .int .i64 0]
set_option maxHeartbeats 2000000 in
theorem find_of (l : List Rg) (lv : Value) (k : K) (w : World) (hF : Cv w lv l) : Calls Try.prog 23 #[lv, .string (bk k)] w fun e w' => e = .returned (findV (findM l k)) ∧ Below w.heap.size w w' := by
  obtain ⟨B, HB⟩ : ∃ B, Hid (B = findV (findM l k)) := ⟨_, rfl⟩
  rw [← HB.out]
  have kc := ccheck_of l lv w hF
  have kk := fun W => cisKey_of k W
  have hFW : ∀ W, Below w.heap.size w W → Cv W lv l := fun W hW => hF.below hW
  obtain ⟨ao, cap, rfl, -⟩ := id hF
  cases hm : mayC l with
  | false =>
    rw [hm] at kc
    simp only [Bool.false_eq_true, if_false] at kc
    have E : Hid (B = .tuple #[.int .i64 0, .int .i64 1]) := by show _ = _; rw [HB.out]; unfold findM; rw [hm]; rfl
    clear HB hm hFW hF kk
    go_enter Try.func23, Try.ntmps23
    go_wp2_with fail
    refine kc.mono ?_
    rintro e w1 ⟨rfl, hb1⟩
    go_wp2
    go_ret2
    exact ⟨by rw [E.out]; rfl, hb1⟩
  | true =>
    rw [hm] at kc
    simp only [if_true] at kc
    by_cases hk : k.length ≤ 64
    · rw [decide_eq_true hk] at kk
      obtain ⟨i, r, hp, -, -⟩ := (mayC_iff.1 hm).place k
      have kp := fun W hW => placeOf_of (hFW W hW) (mayC_iff.1 hm) hk hp
      have E : Hid (B = .tuple #[.int .i64 (i : Int), .int .i64 0]) := by show _ = _; rw [HB.out]; unfold findM; rw [hm, decide_eq_true hk, Bool.and_self, if_pos rfl, hp]; rfl
      clear HB hm hFW hF hk hp
      go_enter Try.func23, Try.ntmps23
      go_wp2_with fail
      refine kc.mono ?_
      rintro e w1 ⟨rfl, hb1⟩
      go_wp2_with fail
      refine (kk _).mono ?_
      rintro e w2 ⟨rfl, hb2⟩
      have hbw := hb1.trans (hb2.mono hb1.size)
      have kp1 := kp w2 hbw
      clear kp kc kk
      go_wp2_with fail
      refine kp1.mono ?_
      rintro e w3 ⟨rfl, hb3⟩
      go_wp2
      go_ret2
      exact ⟨by rw [E.out]; rfl, hbw.trans (hb3.mono hbw.size)⟩
    · rw [decide_eq_false hk] at kk
      have E : Hid (B = .tuple #[.int .i64 0, .int .i64 1]) := by show _ = _; rw [HB.out]; unfold findM; rw [hm, decide_eq_false hk]; rfl
      clear HB hm hFW hF hk
      go_enter Try.func23, Try.ntmps23
      go_wp2_with fail
      refine kc.mono ?_
      rintro e w1 ⟨rfl, hb1⟩
      go_wp2_with fail
      refine (kk _).mono ?_
      rintro e w2 ⟨rfl, hb2⟩
      go_wp2
      go_ret2
      exact ⟨by rw [E.out]; rfl, hb1.trans (hb2.mono hb1.size)⟩

theorem place_at {l : List Rg} {k : K} {i : Nat} {r : Rg} (h : l[i]? = some r) (hb : ∀ j s, j < i → l[j]? = some s → has s.1 k = false) (hr : has r.1 k = true) : place l k = some i := by
  unfold place
  rw [List.findIdx?_eq_some_iff_getElem]
  obtain ⟨h1, rfl⟩ := List.getElem?_eq_some_iff.1 h
  refine ⟨h1, hr, fun j hj => ?_⟩
  have := hb j l[j] hj (List.getElem?_eq_getElem _)
  simp [this]
theorem place_none {l : List Rg} {k : K} (hb : ∀ j s, j < l.length → l[j]? = some s → has s.1 k = false) : place l k = none := by
  unfold place
  rw [List.findIdx?_eq_none_iff]
  intro x hx
  obtain ⟨j, hj, rfl⟩ := List.mem_iff_getElem.1 hx
  exact hb j _ hj (List.getElem?_eq_getElem _)

set_option maxHeartbeats 2000000 in
theorem rfind_of (l : List Rg) (lv : Value) (k : K) (w : World) (hF : Cv w lv l) : Calls Try.prog 20 #[lv, .string (bk k)] w fun e w' => e = .returned (.int .i64 (idxI (findM l k))) ∧ Below w.heap.size w w' := by
  obtain ⟨B, HB⟩ : ∃ B, Hid (B = idxI (findM l k)) := ⟨_, rfl⟩
  rw [← HB.out]
  have kc := rmay_of l lv w hF
  obtain ⟨ao, cap, rfl, h2⟩ := id hF
  cases hm : mayC l with
  | false =>
    rw [hm] at kc
    have E : Hid (B = -1) := by show _ = _; rw [HB.out]; unfold findM; rw [hm]; rfl
    clear HB hm hF h2
    go_enter Try.func20, Try.ntmps20
    go_wp2_with fail
    refine kc.mono ?_
    rintro e w1 ⟨rfl, hb1⟩
    go_wp2
    go_ret
    exact ⟨by rw [E.out]; rfl, hb1⟩
  | true =>
    rw [hm] at kc
    by_cases hk : 64 < k.length
    · have hki : (64 : Int) < (k.length : Int) := by omega
      have E : Hid (B = -1) := by show _ = _; rw [HB.out]; unfold findM; rw [decide_eq_false (by omega), Bool.and_false]; rfl
      clear HB hm hF h2 hk
      go_enter Try.func20, Try.ntmps20
      go_wp2_with fail
      refine kc.mono ?_
      rintro e w1 ⟨rfl, hb1⟩
      go_wp2
      go_ret
      exact ⟨by rw [E.out]; rfl, hb1⟩
    · have hki : ¬ (64 : Int) < (k.length : Int) := by omega
      have HE : Hid (B = idxI (place l k)) := by show _ = _; rw [HB.out]; unfold findM; rw [hm, decide_eq_true (by omega)]; rfl
      have hl64 := (mayC_iff.1 hm).len
      clear HB hm hk
      go_enter Try.func20, Try.ntmps20
      go_wp2_with fail
      refine kc.mono ?_
      rintro e w1 ⟨rfl, hb1⟩
      clear kc
      go_wp2
      go_loopg [5] l.length (fun g s5 wr => ∃ i : Nat, i + g = l.length ∧ s5 = .int .i64 (i : Int) ∧ Below w.heap.size w wr ∧ Hid (∀ j s, j < i → l[j]? = some s → has s.1 k = false))
      case atStart => exact ⟨0, by simp, rfl, hb1, fun j s hj => by omega⟩
      case round =>
        obtain ⟨i, hig, rfl, hb, HP⟩ := hrel
        clear hb1
        by_cases hlt : i < l.length
        · have hlti : (i : Int) < (l.length : Int) := by omega
          have hx : l[i]? = some l[i] := List.getElem?_eq_getElem hlt
          obtain ⟨b, off, rfl, d0, d1, -, -⟩ := h2 i l[i] hx
          obtain ⟨s, hs⟩ : ∃ s, s = l[i] := ⟨_, rfl⟩
          rw [← hs] at hx d0 d1
          have kh := refHas_of s.1 k wr
          obtain ⟨⟨s1, s2⟩, sg, se⟩ := s
          have hlb := World.block_lt_of_cell? w _ d0
          have c0 := (hb.cell (p := ⟨b, off + i * 4, none⟩) hlb).trans d0
          have c1 := (hb.cell (p := ⟨b, off + i * 4 + 1, none⟩) hlb).trans d1
          clear hs d0 d1 h2 hF
          dsimp only at kh
          cases hh : has (s1, s2) k with
          | true =>
            rw [hh] at kh
            have E : Hid (B = (i : Int)) := by show _ = _; rw [HE.out, place_at hx HP.out hh]; rfl
            clear HE hh HP hx
            go_wp2_with fail
            refine kh.mono ?_
            rintro e w2 ⟨rfl, hb2⟩
            go_wp2
            go_ret
            exact ⟨by rw [E.out]; rfl, hb.trans (hb2.mono hb.size)⟩
          | false =>
            rw [hh] at kh
            have HN : Hid (∀ j s, j < i + 1 → l[j]? = some s → has s.1 k = false) := fun j s hj hs => by
              rcases Nat.lt_succ_iff_lt_or_eq.1 hj with h | h
              · exact HP.out j s h hs
              · subst h
                rw [hx] at hs
                cases hs
                exact hh
            clear hh HP hx
            go_wp2_with fail
            refine kh.mono ?_
            rintro e w2 ⟨rfl, hb2⟩
            go_wp2
            go_roundg (gk - 1)
            case measure => omega
            case rel => exact ⟨i + 1, by omega, by go_num, hb.trans (hb2.mono hb.size), HN⟩
        · have hlti : ¬ (i : Int) < (l.length : Int) := by omega
          have E : Hid (B = -1) := by show _ = _; rw [HE.out, place_none fun j s hj => HP.out j s (by omega)]; rfl
          clear HE HP h2 hF
          go_wp2
          go_ret
          exact ⟨by rw [E.out]; rfl, hb⟩
end Go.Proofs.Ytlgnnfhnkfjafaa


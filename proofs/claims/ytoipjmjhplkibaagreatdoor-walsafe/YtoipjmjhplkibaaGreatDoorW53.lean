import Derived.Test.YtoipjmjhplkibaaGreatDoorW23
import Derived.Test.YtoipjmjhplkibaaGreatDoorW51
import Derived.Test.YtoipjmjhplkibaaGreatDoorW50
import Derived.Test.YtoipjmjhplkibaaGreatDoorW52
/- The contract of the law's light: the acts that are taken. -/
namespace Go.Proofs.YtoipjmjhplkibaaGreatDoor
open Go.RowKit DiskMath
set_option maxRecDepth 100000
set_option linter.unusedSimpArgs false
set_option linter.unusedVariables false

/-- How many bytes acts have. -/
def totB (l : List Wc) : Nat := (l.map fun x => x.b.length).sum
theorem totB_append (l k : List Wc) : totB (l ++ k) = totB l + totB k := by simp [totB]
theorem totB_snoc (l : List Wc) (x : Wc) : totB (l ++ [x]) = totB l + x.b.length := by simp [totB]
/-- Acts that are not too many, nor too great. -/
def LightL (l : List Wc) : Prop := l.length ≤ 80 ∧ totB l ≤ 40000
theorem Wv.took {w : World} {ao : Option Addr} {cap : Nat} {l : List Wc} (h : Wv w (.slice ao l.length cap) l) (i : Nat) (hi : i ≤ l.length) : Wv w (.slice ao i cap) (l.take i) := by
  obtain ⟨ao', cap', e, h1, h2, h3⟩ := h
  cases e
  have hl : (l.take i).length = i := by rw [List.length_take]; omega
  refine ⟨ao, cap, by rw [hl], by omega, h2, fun n x hx => ?_⟩
  have : n < i := by
    have := (List.getElem?_eq_some_iff.1 hx).1
    omega
  rw [List.getElem?_take_of_lt this] at hx
  exact h3 n x hx

/-- What light tells. -/
def LightT (w : World) (lv : Value) (l : List Wc) (e : Ending) (w' : World) : Prop := w' = w ∧ ∃ ao cap k, lv = .slice ao l.length cap ∧ e = .returned (.slice ao k cap) ∧ k ≤ l.length ∧ LightL (l.take k)

set_option maxHeartbeats 1000000 in
theorem light_of (l : List Wc) (lv : Value) (w : World) (hA : Wv w lv l) (hsz : ∀ x ∈ l, x.b.length ≤ 4611686018427387) : Calls Tryz.prog 9 #[lv] w (LightT w lv l) := by
  obtain ⟨ao, cap, rfl, h0, h1, h2⟩ := id hA
  have hcm : (cap : Int) ≤ 9223372036854775807 := by unfold maxLen at h1; omega
  have E : ∀ i, i ≤ l.length → i ≤ 80 → totB (l.take i) ≤ 40000 → Hid (LightT w (.slice ao l.length cap) l (.returned (.slice ao i cap)) w) := fun i h3 h4 h5 => ⟨rfl, ao, cap, i, rfl, rfl, h3, by rw [List.length_take]; omega, h5⟩
  generalize LightT w (.slice ao l.length cap) l = T at *
  clear hA
  go_enter Tryz.func9, Tryz.ntmps9
  go_wp2
  go_loopg [3, 4] l.length (fun g s3 s4 wr => ∃ i n : Nat, i + g = l.length ∧ s4 = .int .i64 (i : Int) ∧ s3 = .int .i64 (n : Int) ∧ i ≤ 80 ∧ n ≤ 40000 ∧ Hid (n = totB (l.take i)) ∧ wr = w)
  case atStart => exact ⟨0, 0, by simp, rfl, rfl, by omega, by omega, rfl, rfl⟩
  case round =>
    obtain ⟨i, n, hi, rfl, rfl, hi8, hn, hT, rfl⟩ := hrel
    by_cases hlt : i < l.length
    · have hlti : (i : Int) < (l.length : Int) := by omega
      have hx : l[i]? = some l[i] := List.getElem?_eq_getElem hlt
      obtain ⟨b, off, vs, rfl, ⟨bv, cv, rfl, hB, _⟩, hc⟩ := h2 i l[i] hx
      have c3 := hc 3 bv rfl
      have hsn : totB (l.take (i + 1)) = totB (l.take i) + l[i].b.length := by rw [List.take_succ_eq_append_getElem hlt, totB_snoc]
      have hb3 := hsz l[i] (List.getElem_mem hlt)
      clear hsz
      generalize l[i] = x at *
      letI := keepAll
      obtain ⟨ab, cb, rfl, hb1, hb2, _⟩ := id hB
      have hz1 : (n : Int) + (x.b.length : Int) ≤ 9223372036854775807 := by omega
      have hE := E i (by omega) hi8 (by rw [← hT.out]; exact hn)
      have hic : (i : Int) ≤ (cap : Int) := by omega
      have hi0 : ¬ (i : Int) < 0 := by omega
      clear hx hc h2 hB
      by_cases h4 : 40000 < n + x.b.length
      · have h4i : (40000 : Int) < (n : Int) + (x.b.length : Int) := by omega
        clear E
        go_wp2
        all_goals first | exact hE.out | (go_ret; exact hE.out)
      · have h4i : ¬ (40000 : Int) < (n : Int) + (x.b.length : Int) := by omega
        by_cases h8 : 80 ≤ i
        · have h8i : (80 : Int) ≤ (i : Int) := by omega
          clear E
          go_wp2
          all_goals first | exact hE.out | (go_ret; exact hE.out)
        · have h8i : ¬ (80 : Int) ≤ (i : Int) := by omega
          have hT' : Hid (n + x.b.length = totB (l.take (i + 1))) := by show _ = _; rw [hsn, hT.out]
          clear E hE hsn
          go_wp2
          go_roundg (gk - 1)
          case measure => omega
          case rel => exact ⟨i + 1, n + x.b.length, by omega, by go_num, by go_num, by omega, by omega, hT', rfl⟩
    · have hlti : ¬ (i : Int) < (l.length : Int) := by omega
      have hE := E l.length (by omega) (by omega) (by rw [show l.length = i by omega, ← hT.out]; exact hn)
      clear E h2 hsz
      go_wp2
      all_goals first | exact hE.out | (go_ret; exact hE.out)
end Go.Proofs.YtoipjmjhplkibaaGreatDoor

/- The law's own row of records: full, or one's own. -/
namespace Go.Proofs.YtoipjmjhplkibaaGreatDoor
open Go.RowKit WalMath DiskMath
set_option maxRecDepth 100000
set_option linter.unusedSimpArgs false
set_option linter.unusedVariables false

/-- A row of records' cells: its own, or full. -/
def Rw2 (w : World) (v : Value) (xs : List (Value × Value)) : Prop :=
  ∃ g cap, v = .slice (some ⟨g, 0, none⟩) xs.length cap ∧ xs.length ≤ cap ∧ cap ≤ maxLen ∧ g < w.heap.size ∧ (∀ i x, xs[i]? = some x → w.cell? ⟨g, i * 2, none⟩ = some x.1 ∧ w.cell? ⟨g, i * 2 + 1, none⟩ = some x.2) ∧ (R2 w 44 v xs ∨ cap = xs.length)
theorem Rw2.same {w w' : World} {v : Value} {xs : List (Value × Value)} (h : Rw2 w v xs) (hsz : w.heap.size ≤ w'.heap.size) (hs : ∀ k, v.ownBlock = some k → w'.heap[k]? = w.heap[k]?) : Rw2 w' v xs := by
  obtain ⟨g, cap, rfl, h1, h2, h3, h4, h5⟩ := h
  have hk := hs g rfl
  exact ⟨g, cap, rfl, h1, h2, Nat.lt_of_lt_of_le h3 hsz, fun i x hx => ⟨(World.cell?_of_block (w := w) (a := ⟨g, i * 2, none⟩) hk).trans (h4 i x hx).1, (World.cell?_of_block (w := w) (a := ⟨g, i * 2 + 1, none⟩) hk).trans (h4 i x hx).2⟩, h5.imp (fun h => h.same hs) id⟩
theorem Rw2.cut {w : World} {g len cap : Nat} {xs : List (Value × Value)} (h : Rw2 w (.slice (some ⟨g, 0, none⟩) len cap) xs) (k : Nat) (hk : k ≤ xs.length) : Rw2 w (.slice (some ⟨g, 0, none⟩) k k) (xs.take k) := by
  obtain ⟨g', cap', e, h1, h2, h3, h4, h5⟩ := h
  cases e
  have hl : (xs.take k).length = k := by rw [List.length_take]; omega
  refine ⟨g, k, by rw [hl], by omega, by omega, h3, fun i x hx => ?_, .inr hl.symm⟩
  have : i < k := by
    have := (List.getElem?_eq_some_iff.1 hx).1
    omega
  rw [List.getElem?_take_of_lt this] at hx
  exact h4 i x hx
theorem Rw2.empty (w : World) : Rw2 (w.alloc (.cells #[] 44)) (.slice (some ⟨w.heap.size, 0, none⟩) 0 0) [] :=
  ⟨w.heap.size, 0, rfl, Nat.le_refl _, Nat.zero_le _, by simp, fun i x hx => by simp at hx, .inr rfl⟩
theorem c2_at {xs : List (Value × Value)} {j : Nat} {u : Value} (h : (c2 xs)[j]? = some u) : ∃ x, xs[j / 2]? = some x ∧ u = if j % 2 = 0 then x.1 else x.2 := by
  have hl := (List.getElem?_eq_some_iff.1 h).1
  rw [c2_length] at hl
  have hx := List.getElem?_eq_getElem (show j / 2 < xs.length by omega)
  refine ⟨xs[j / 2], hx, ?_⟩
  obtain ⟨h1, h2⟩ := c2_get xs (j / 2) _ hx
  have : j = j / 2 * 2 ∨ j = j / 2 * 2 + 1 := by omega
  by_cases hm : j % 2 = 0
  · rw [if_pos hm]
    rw [show j / 2 * 2 = j by omega, h] at h1
    exact Option.some.inj h1
  · rw [if_neg hm]
    rw [show j / 2 * 2 + 1 = j by omega, h] at h2
    exact Option.some.inj h2

/-- A record more. -/
theorem Rw2.push {w : World} {v : Value} {xs : List (Value × Value)} (h : Rw2 w v xs) (x : Value × Value) (ty : TypeId) (hlen : xs.length ≤ 1000) (h1 : x.1.oneCell' = true) (h2 : x.2.oneCell' = true) :
    ∃ v' w', (Builtin.append_ #[50, 50] ty #[v, .slice (some ⟨w.heap.size, 0, none⟩) 1 1]).run Tryz.prog (w.alloc (.cells #[x.1, x.2] 44)) = .ok v' w' ∧ Rw2 w' v' (xs ++ [x]) ∧ w.grownBy w' v.ownBlock ∧ ∀ k, v'.ownBlock = some k → v.ownBlock = some k ∨ w.heap.size ≤ k := by
  have out : ∀ {w' : World} {v' : Value}, R2 w' 44 v' (xs ++ [x]) → Rw2 w' v' (xs ++ [x]) := fun {w' v'} hR => by
    obtain ⟨g, cap, e, a1, a2, a3, a4, -⟩ := hR.cells (by simp)
    exact ⟨g, cap, e, a1, a2, a3, a4, .inl hR⟩
  obtain ⟨g, cap, rfl, a1, a2, a3, a4, hR | rfl⟩ := h
  · obtain ⟨v', w', r1, r2, r3, r4⟩ := push_rec w ty _ xs x hR (by omega) h1 h2
    exact ⟨v', w', r1, out r2, r3, r4⟩
  · obtain ⟨i0, hi0, hz0, hz1, hz2⟩ := info_parts infoRec
    have hb1 := (Below.refl w.heap.size w).alloc (Nat.le_refl _) (.cells #[x.1, x.2] 44)
    obtain ⟨v', w', r1, r2, r3⟩ := run_append_arg_grows (P := Tryz.prog) (w.alloc (.cells #[x.1, x.2] 44)) 50 ty 44 i0 _ 2 32 Tryz.underlying50 hi0 hz0 hz1 hz2 rfl (by decide) ⟨g, 0, none⟩ xs.length xs.length (c2 xs) (c2_length xs)
      (fun j u hj => by
        obtain ⟨y, hy, hu⟩ := c2_at hj
        rw [Addr.add_lit, Nat.zero_add]
        refine (hb1.cell (p := ⟨g, j, none⟩) a3).trans ?_
        obtain ⟨b1, b2⟩ := a4 _ y hy
        by_cases hm : j % 2 = 0
        · rw [if_pos hm] at hu
          rw [show j / 2 * 2 = j by omega] at b1
          rw [b1, hu]
        · rw [if_neg hm] at hu
          rw [show j / 2 * 2 + 1 = j by omega] at b2
          rw [b2, hu])
      ⟨w.heap.size, 0, none⟩ 1 1 [x.1, x.2] rfl (fun j u hj => by
        rw [Addr.add_lit, cells_of_block (heap_alloc_new w _), Nat.zero_add, ← Array.getElem?_toList]
        exact hj) (by omega) (by unfold maxLen; omega) (by omega)
    have hR' : R2 w' 44 v' (xs ++ [x]) := by
      unfold R2
      rw [c2_append, List.length_append]
      exact ⟨r2.1, r2.2.imp id fun ⟨g, cap, cur, e1, e2, e3⟩ => ⟨g, cap, cur, e1, Nat.zero_le _, e3⟩⟩
    refine ⟨v', w', r1, out hR', ⟨r3.os.trans hb1.os, r3.tape.trans hb1.tape, r3.output.trans hb1.output, Nat.le_trans hb1.size r3.size, fun i hi _ => (r3.block i (Nat.lt_of_lt_of_le hi hb1.size) (by simp)).trans (hb1.block i hi)⟩, fun k hk => .inr ?_⟩
    have := (World.ownsRow.lt r2 k hk).1
    exact Nat.le_trans hb1.size this

/-- Records, their bytes in what came in (below block n). -/
def Rc (n : Nat) (w : World) (v : Value) (rs : List Rec) : Prop :=
  ∃ xs : List (Value × Value), Rw2 w v xs ∧ xs.length = rs.length ∧ ∀ (i : Nat) (r : Rec) (x : Value × Value), rs[i]? = some r → xs[i]? = some x → x.1 = .int .u64 (r.index : Int) ∧ @Bs keepAll n w x.2 r.data
theorem Rc.shape {n : Nat} {w : World} {v : Value} {rs : List Rec} (h : Rc n w v rs) : ∃ g cap, v = .slice (some ⟨g, 0, none⟩) rs.length cap ∧ rs.length ≤ cap ∧ cap ≤ maxLen ∧ g < w.heap.size := by
  obtain ⟨xs, ⟨g, cap, e, h1, h2, h3, -⟩, hl, -⟩ := h
  exact ⟨g, cap, by rw [e, hl], by omega, h2, h3⟩
theorem Rc.cells {n : Nat} {w : World} {g len cap : Nat} {rs : List Rec} (h : Rc n w (.slice (some ⟨g, 0, none⟩) len cap) rs) {i : Nat} {r : Rec} (hr : rs[i]? = some r) : ∃ bv, w.cell? ⟨g, i * 2, none⟩ = some (.int .u64 (r.index : Int)) ∧ w.cell? ⟨g, i * 2 + 1, none⟩ = some bv ∧ @Bs keepAll n w bv r.data := by
  obtain ⟨xs, ⟨g', cap', e, h1, h2, h3, h4, -⟩, hl, h5⟩ := h
  cases e
  have hil := (List.getElem?_eq_some_iff.1 hr).1
  have hx := List.getElem?_eq_getElem (show i < xs.length by omega)
  obtain ⟨c1, c2⟩ := h4 i _ hx
  obtain ⟨e1, e2⟩ := h5 i r _ hr hx
  exact ⟨_, by rw [c1, e1], c2, e2⟩
theorem Rc.cut {n : Nat} {w : World} {g len cap : Nat} {rs : List Rec} (h : Rc n w (.slice (some ⟨g, 0, none⟩) len cap) rs) (k : Nat) (hk : k ≤ rs.length) : Rc n w (.slice (some ⟨g, 0, none⟩) k k) (rs.take k) := by
  obtain ⟨xs, h1, hl, h2⟩ := h
  refine ⟨xs.take k, h1.cut k (by omega), by simp [hl], fun i r x hr hx => ?_⟩
  have : i < k := by
    have := (List.getElem?_eq_some_iff.1 hr).1
    rw [List.length_take] at this
    omega
  rw [List.getElem?_take_of_lt this] at hr hx
  exact h2 i r x hr hx
theorem Rc.empty (n : Nat) (w : World) : Rc n (w.alloc (.cells #[] 44)) (.slice (some ⟨w.heap.size, 0, none⟩) 0 0) [] := ⟨[], Rw2.empty w, rfl, fun i r x hr => by simp at hr⟩
theorem Rc.same {n : Nat} {w w' : World} {v : Value} {rs : List Rec} (h : Rc n w v rs) (hb : Below n w w') (hs : ∀ k, v.ownBlock = some k → w'.heap[k]? = w.heap[k]?) : Rc n w' v rs := by
  obtain ⟨xs, h1, hl, h2⟩ := h
  letI := keepAll
  exact ⟨xs, h1.same hb.size hs, hl, fun i r x hr hx => ⟨(h2 i r x hr hx).1, (h2 i r x hr hx).2.below hb⟩⟩
theorem Rc.push {n : Nat} {w : World} {v bv : Value} {rs : List Rec} (h : Rc n w v rs) (hv : ∀ k, v.ownBlock = some k → n ≤ k) (hn : n ≤ w.heap.size) (r : Rec) (ty : TypeId) (hlen : rs.length ≤ 1000) (hB : @Bs keepAll n w bv r.data) :
    ∃ v' w', (Builtin.append_ #[50, 50] ty #[v, .slice (some ⟨w.heap.size, 0, none⟩) 1 1]).run Tryz.prog (w.alloc (.cells #[.int .u64 (r.index : Int), bv] 44)) = .ok v' w' ∧ Rc n w' v' (rs ++ [r]) ∧ w.grownBy w' v.ownBlock ∧ Below n w w' ∧ (∀ k, v'.ownBlock = some k → v.ownBlock = some k ∨ w.heap.size ≤ k) ∧ ∃ a m c, v' = .slice a m c := by
  letI := keepAll
  obtain ⟨xs, h1, hl, h2⟩ := h
  have hbv : bv.oneCell' = true := by
    obtain ⟨ao, cap, rfl, -⟩ := hB
    rfl
  obtain ⟨v', w', r1, r2, r3, r4⟩ := h1.push (.int .u64 (r.index : Int), bv) ty (by omega) rfl hbv
  have hb : Below n w w' := (Below.refl n w).grown r3 hn (fun k hk => hv k hk)
  refine ⟨v', w', r1, ⟨xs ++ [(.int .u64 (r.index : Int), bv)], r2, by simp [hl], fun i q x hq hx => ?_⟩, r3, hb, r4, ?_⟩
  · by_cases hi : i < rs.length
    · rw [List.getElem?_append_left hi] at hq
      rw [List.getElem?_append_left (by omega)] at hx
      exact ⟨(h2 i q x hq hx).1, (h2 i q x hq hx).2.below hb⟩
    · rw [List.getElem?_append_right (by omega)] at hq
      rw [List.getElem?_append_right (by omega), hl] at hx
      have he : i = rs.length := by
        have := (List.getElem?_eq_some_iff.1 hq).1
        simp at this
        omega
      subst he
      simp at hq hx
      rw [← hq, ← hx]
      exact ⟨rfl, hB.below hb⟩
  · obtain ⟨g, cap, e, -⟩ := r2
    exact ⟨_, _, _, e⟩
end Go.Proofs.YtoipjmjhplkibaaGreatDoor

/- The law's state: a log over its disk, and the law's own row of records, all in new memory; what each act leaves of it. -/
namespace Go.Proofs.YtoipjmjhplkibaaGreatDoor
open Go.RowKit WalMath DiskMath
set_option maxRecDepth 100000
set_option linter.unusedSimpArgs false
set_option linter.unusedVariables false

/-- The state in world W, w0 being the world in which it was begun. -/
structure Lv (w0 W : World) (wv dv av : Value) (sg : List Seg) (fs : Files) (al : List Rec) : Prop where
  ex : ∃ U, Lg U W wv dv sg fs ∧ (∀ b, U b → w0.heap.size ≤ b) ∧ ∀ k, av.ownBlock = some k → w0.heap.size ≤ k ∧ ¬ U k
  rc : Rc w0.heap.size W av al
  bel : Below w0.heap.size w0 W

theorem Rc.lt {n : Nat} {w : World} {v : Value} {rs : List Rec} (h : Rc n w v rs) {k : Nat} (hk : v.ownBlock = some k) : k < w.heap.size := by
  obtain ⟨g, cap, rfl, -, -, hg⟩ := h.shape
  cases hk
  exact hg
theorem Lv.below {w0 W W' : World} {wv dv av : Value} {sg : List Seg} {fs : Files} {al : List Rec} (h : Lv w0 W wv dv av sg fs al) (hb : Below W.heap.size W W') : Lv w0 W' wv dv av sg fs al := by
  obtain ⟨U, h1, h2, h3⟩ := h.ex
  exact ⟨⟨U, h1.below hb, h2, h3⟩, h.rc.same (hb.mono h.bel.size) (fun k hk => hb.block k (h.rc.lt hk)), h.bel.trans (hb.mono h.bel.size)⟩
theorem Lv.tb {w0 W : World} {wv dv av : Value} {sg : List Seg} {fs : Files} {al : List Rec} (h : Lv w0 W wv dv av sg fs al) (hT : Tb w0) : Tb W := hT.new h.bel
theorem Lv.act {w0 W W' : World} {wv dv av : Value} {sg sg' : List Seg} {fs fs' : Files} {al : List Rec} {U : Nat → Prop} (h : Lv w0 W wv dv av sg fs al) (h2 : ∀ b, U b → w0.heap.size ≤ b) (h3 : ∀ k, av.ownBlock = some k → w0.heap.size ≤ k ∧ ¬ U k) (hN : LgN U W wv dv sg' fs' W') : Lv w0 W' wv dv av sg' fs' al := by
  obtain ⟨U', g1, g2, g3⟩ := hN
  have hb : Below w0.heap.size W W' := ⟨g3.os, g3.tape, g3.output, g3.size, fun b hb => g3.block b (by have := h.bel.size; omega) (fun hu => by have := h2 b hu; omega)⟩
  refine ⟨⟨U', g1, fun b hb' => (g2 b hb').elim (h2 b) fun h' => Nat.le_trans h.bel.size h', fun k hk => ⟨(h3 k hk).1, fun hu => (g2 k hu).elim (h3 k hk).2 fun h' => by have := h.rc.lt hk; omega⟩⟩, h.rc.same hb (fun k hk => g3.block k (h.rc.lt hk) (h3 k hk).2), h.bel.trans hb⟩
theorem Lv.shape {w0 W : World} {wv dv av : Value} {sg : List Seg} {fs : Files} {al : List Rec} (h : Lv w0 W wv dv av sg fs al) : ∃ q dq, wv = .pointer (some ⟨q, 0, none⟩) ∧ dv = .pointer (some ⟨dq, 0, none⟩) := by
  obtain ⟨U, h1, -⟩ := h.ex
  obtain ⟨S, σ, q, sv, rfl, hD, -⟩ := h1.ex
  obtain ⟨dq, rfl⟩ := hD.shape
  exact ⟨q, dq, rfl, rfl⟩

theorem Lv.cutRow {w0 W : World} {wv dv : Value} {g len cap : Nat} {sg : List Seg} {fs : Files} {al : List Rec} (h : Lv w0 W wv dv (.slice (some ⟨g, 0, none⟩) len cap) sg fs al) (k : Nat) (hk : k ≤ al.length) : Lv w0 W wv dv (.slice (some ⟨g, 0, none⟩) k k) sg fs (al.take k) := by
  obtain ⟨U, h1, h2, h3⟩ := h.ex
  exact ⟨⟨U, h1, h2, fun b hb => h3 b hb⟩, h.rc.cut k hk, h.bel⟩

theorem lv_sync {w0 W : World} {wv dv av : Value} {sg : List Seg} {fs : Files} {al : List Rec} (hT : Tb w0) (h : Lv w0 W wv dv av sg fs al) (hw : Whole sg fs) :
    Calls Tryz.prog 11 #[wv] W fun e w' => e = .returned (.tuple #[]) ∧ Lv w0 w' wv dv av sg (syncF sg fs) al := by
  obtain ⟨U, h1, h2, h3⟩ := h.ex
  exact (sync_w (h.tb hT) h1 hw.cons).mono fun e w' k => ⟨k.1, h.act h2 h3 k.2⟩
theorem lv_last {w0 W : World} {wv dv av : Value} {sg : List Seg} {fs : Files} {al : List Rec} (hT : Tb w0) (h : Lv w0 W wv dv av sg fs al) (hw : Whole sg fs) :
    Calls Tryz.prog 10 #[wv] W fun e w' => e = .returned (.int .u64 (lastIx 0 (recsOf sg) : Int)) ∧ Below W.heap.size W w' := by
  obtain ⟨U, h1, h2, h3⟩ := h.ex
  obtain ⟨S, σ, q, sv, rfl, hD, hW, -⟩ := h1.ex
  exact last_of (h.tb hT) hD hW hw.cons (fun s hs => by have := (hw.at_ s hs).2.1; omega)
theorem lv_get {w0 W : World} {wv dv av : Value} {sg : List Seg} {fs : Files} {al : List Rec} (hT : Tb w0) (h : Lv w0 W wv dv av sg fs al) (hw : Whole sg fs) (idx : Nat) (hi : idx < 18446744073709551616) :
    Calls Tryz.prog 24 #[wv, .int .u64 (idx : Int)] W (GetT W sg idx) := by
  obtain ⟨U, h1, h2, h3⟩ := h.ex
  obtain ⟨S, σ, q, sv, rfl, hD, hW, -⟩ := h1.ex
  exact get_of idx (h.tb hT) hD hW hw hi
theorem lv_long {w0 W : World} {wv dv av : Value} {sg : List Seg} {fs : Files} {al : List Rec} (hT : Tb w0) (h : Lv w0 W wv dv av sg fs al) (hw : Whole sg fs) (n : Nat) (ba : Option Addr) (bl bc : Nat) (hn : 0 < n) (hl : 4096 < bl) :
    Calls Tryz.prog 20 #[wv, .agg #[.int .u64 (n : Int), .slice ba bl bc]] W fun e w' => e = .returned (.int .i64 3) ∧ Lv w0 w' wv dv av sg fs al := by
  obtain ⟨U, h1, h2, h3⟩ := h.ex
  exact (append_long n ba bl bc (h.tb hT) h1 hw.cons hn hl).mono fun e w' k => ⟨k.1, h.below k.2⟩
theorem lv_append {w0 W : World} {wv dv av bv : Value} {sg : List Seg} {fs fs2 : Files} {al : List Rec} (hT : Tb w0) (h : Lv w0 W wv dv av sg fs al) (hw : Whole sg fs) (hF : Few sg) (r : Rec) (hok : okRec r) (hB : @Bs keepAll W.heap.size W bv r.data)
    (hch : r.index = lastIx 0 (recsOf sg) + 1) (hnum : roomN sg < 100000000) (hap : dAppend (roomF sg fs) (segName (roomN sg)) (recB r) = (fs2, 0)) :
    Calls Tryz.prog 20 #[wv, .agg #[.int .u64 (r.index : Int), bv]] W fun e w' => e = .returned (.int .i64 0) ∧ Lv w0 w' wv dv av (addS sg (roomN sg) r) fs2 al := by
  obtain ⟨U, h1, h2, h3⟩ := h.ex
  have h2w := hT.two
  exact (append_ok r (h.tb hT) h1 (fun b hb => Nat.le_trans h2w (h2 b hb)) hw.cons hF hok hB (.inr hch) hnum hap).mono fun e w' k => ⟨k.1, h.act h2 h3 k.2⟩
theorem lv_append2 {w0 Wa W : World} {wv dv av bv : Value} {sg : List Seg} {fs fs2 : Files} {al : List Rec} (hT : Tb w0) (h : Lv w0 Wa wv dv av sg fs al) (hb : Below Wa.heap.size Wa W) (hw : Whole sg fs) (hF : Few sg) (r : Rec) (hok : okRec r) (hB : @Bs keepAll W.heap.size W bv r.data)
    (hch : r.index = lastIx 0 (recsOf sg) + 1) (hnum : roomN sg < 100000000) (hap : dAppend (roomF sg fs) (segName (roomN sg)) (recB r) = (fs2, 0)) :
    Calls Tryz.prog 20 #[wv, .agg #[.int .u64 (r.index : Int), bv]] W fun e w' => e = .returned (.int .i64 0) ∧ Lv w0 w' wv dv av (addS sg (roomN sg) r) fs2 al ∧ ∀ b, Wa.heap.size ≤ b → b < W.heap.size → w'.heap[b]? = W.heap[b]? := by
  obtain ⟨U, h1, h2, h3⟩ := h.ex
  have h2w := hT.two
  have h' := h.below hb
  refine (append_ok r (h'.tb hT) (h1.below hb) (fun b hb => Nat.le_trans h2w (h2 b hb)) hw.cons hF hok hB (.inr hch) hnum hap).mono fun e w' k => ⟨k.1, h'.act h2 h3 k.2, fun b hb1 hb2 => ?_⟩
  obtain ⟨U', -, -, g3⟩ := k.2
  exact g3.block b hb2 (fun hu => by have := h1.lt b hu; omega)
theorem Lv.push {w0 W : World} {wv dv av bv : Value} {sg : List Seg} {fs : Files} {al : List Rec} (h : Lv w0 W wv dv av sg fs al) (r : Rec) (ty : TypeId) (hlen : al.length ≤ 1000) (hB : @Bs keepAll w0.heap.size W bv r.data) :
    ∃ v' w', (Builtin.append_ #[50, 50] ty #[av, .slice (some ⟨W.heap.size, 0, none⟩) 1 1]).run Tryz.prog (W.alloc (.cells #[.int .u64 (r.index : Int), bv] 44)) = .ok v' w' ∧ Lv w0 w' wv dv v' sg fs (al ++ [r]) := by
  obtain ⟨U, h1, h2, h3⟩ := h.ex
  obtain ⟨v', w', r1, r2, r3, r4, r5, -⟩ := h.rc.push (fun k hk => (h3 k hk).1) h.bel.size r ty hlen hB
  refine ⟨v', w', r1, ⟨U, h1.kept r3.size fun b hb => r3.block b (h1.lt b hb) (fun e => (h3 b e.symm).2 hb), h2, fun k hk => ?_⟩, r2, h.bel.trans r4⟩
  rcases r5 k hk with e | e
  · exact h3 k e
  · exact ⟨Nat.le_trans h.bel.size e, fun hu => by have := h1.lt k hu; omega⟩
theorem lv_cut {w0 W : World} {wv dv av : Value} {sg : List Seg} {fs : Files} {al : List Rec} (hT : Tb w0) (h : Lv w0 W wv dv av sg fs al) (hw : Whole sg fs) (idx : Nat) (hi : idx < 18446744073709551616) (hin : ∃ s ∈ sg, hasIx s idx) :
    Calls Tryz.prog 13 #[wv, .int .u64 (idx : Int)] W fun e w' => e = .returned (.int .i64 0) ∧ ∃ i s, sg[i]? = some s ∧ hasIx s idx ∧ Lv w0 w' wv dv av (cutSg sg i s (idx - firstIx s.recs)) (cutFs sg i s (idx - firstIx s.recs) fs) al := by
  obtain ⟨U, h1, h2, h3⟩ := h.ex
  have h2w := hT.two
  refine (cutfrom_w idx (h.tb hT) h1 (fun b hb => Nat.le_trans h2w (h2 b hb)) hw hi hin).mono ?_
  rintro e w' ⟨rfl, i, s, g1, g2, g3⟩
  exact ⟨rfl, i, s, g1, g2, h.act h2 h3 g3⟩

/-- Behind a crash the disk alone is there. -/
structure Dv (w0 W : World) (dv av : Value) (fs : Files) (al : List Rec) : Prop where
  ex : ∃ S, Dk S W dv fs ∧ (∀ b, S b → w0.heap.size ≤ b) ∧ ∀ k, av.ownBlock = some k → w0.heap.size ≤ k ∧ ¬ S k
  rc : Rc w0.heap.size W av al
  bel : Below w0.heap.size w0 W
theorem lv_crash {w0 W : World} {wv dv av cv : Value} {sg : List Seg} {fs : Files} {al : List Rec} (cuts : List Int) (h : Lv w0 W wv dv av sg fs al) (hC : Nv w0 cv cuts) :
    Calls Tryz.prog 17 #[dv, cv] W fun e w' => e = .returned (.tuple #[]) ∧ Dv w0 w' dv av (crash fs cuts) al := by
  obtain ⟨U, h1, h2, h3⟩ := h.ex
  obtain ⟨S, σ, q, sv, rfl, hD, hW, hS, hU⟩ := h1.ex
  have hS0 : ∀ b, S b → w0.heap.size ≤ b := fun b hb => h2 b ((hU b).2 (.inl hb))
  have hbk : ∀ {w'}, Kept S W w' → Below w0.heap.size W w' := fun {w'} g => ⟨g.os, g.tape, g.output, g.size, fun b hb => g.block b (by have := h.bel.size; omega) (fun hu => by have := hS0 b hu; omega)⟩
  refine (dcrash_of cv cuts hD (fun w' hk => hC.below (h.bel.trans (hbk hk)))).mono ?_
  rintro e w' ⟨rfl, S', g1, g2, g3⟩
  refine ⟨rfl, ⟨S', g1, fun b hb' => (g2 b hb').elim (hS0 b) fun h' => Nat.le_trans h.bel.size h', fun k hk => ⟨(h3 k hk).1, fun hu => (g2 k hu).elim (fun hs => (h3 k hk).2 ((hU k).2 (.inl hs))) fun h' => by have := h.rc.lt hk; omega⟩⟩, h.rc.same (hbk g3) (fun k hk => g3.block k (h.rc.lt hk) (fun hs => (h3 k hk).2 ((hU k).2 (.inl hs)))), h.bel.trans (hbk g3)⟩
theorem lv_open {w0 W : World} {dv av : Value} {fs : Files} {al : List Rec} (hT : Tb w0) (h : Dv w0 W dv av fs al) (xs : List (Seg × Nat)) (hx : Rdl xs) (hs : SegFs fs (xs.map xfile)) :
    Calls Tryz.prog 8 #[dv] W fun e w' => ∃ q, e = .returned (.tuple #[.pointer (some ⟨q, 0, none⟩), .int .i64 0]) ∧ Lv w0 w' (.pointer (some ⟨q, 0, none⟩)) dv av (xs.map cutS) (leaveF (xs.map cutS) fs) al := by
  obtain ⟨S, hD, h2, h3⟩ := h.ex
  have h2w := hT.two
  refine (opens_of xs (hT.new h.bel) hD (fun b hb => Nat.le_trans h2w (h2 b hb)) hx hs).mono ?_
  rintro e w' ⟨v, U, rfl, g1, g2, g3⟩
  obtain ⟨_, _, q, _, rfl, -⟩ := g1.ex
  have hb : Below w0.heap.size W w' := ⟨g3.os, g3.tape, g3.output, g3.size, fun b hb => g3.block b (by have := h.bel.size; omega) (fun hu => by have := h2 b hu; omega)⟩
  exact ⟨q, rfl, ⟨U, g1, fun b hb' => (g2 b hb').elim (h2 b) fun h' => Nat.le_trans h.bel.size h', fun k hk => ⟨(h3 k hk).1, fun hu => (g2 k hu).elim (h3 k hk).2 fun h' => by have := h.rc.lt hk; omega⟩⟩, h.rc.same hb (fun k hk => g3.block k (h.rc.lt hk) (h3 k hk).2), h.bel.trans hb⟩
end Go.Proofs.YtoipjmjhplkibaaGreatDoor

/- The law WalSafe. -/
namespace Go.Proofs.YtoipjmjhplkibaaGreatDoor
open Go.RowKit WalMath DiskMath
set_option maxRecDepth 100000
set_option linter.unusedSimpArgs false
set_option linter.unusedVariables false

theorem rec_over {r : Rec} (hok : okRec r) : (recB r).length ≤ r.data.length + 30 := by
  have := rec_small hok
  have hlen4 := hok.2.2.1
  unfold recB
  rw [FrameMath.frameB_length]
  have h1 := WireMath.uv_len10 hok.2.1
  have h2 : (WireMath.uv ((WireMath.uv r.index ++ r.data).length + 5)).length ≤ 10 := WireMath.uv_len10 (by rw [List.length_append]; omega)
  rw [List.length_append] at *
  omega

/-- Pass number i by: its guard says no. -/
theorem wpAnyL_skip {P : Program} {md : Region.Mode} {ops : Array Oper} {Q : Exit → Act → World → Prop} {S : World → Prop} {M : List Nat} (i : Nat) {oi : Oper} {fuel : Nat} {listed : Array Bool} {a : Act} {w : World} (hi : ops[i]? = some oi)
    (hs : Region.noSelect ops = true) (hf : Region.free md ops listed i = true) (hr : (Region.ready md ops listed).contains i = true) (hM : waitAll md ops M i = true)
    (hQ : ∀ c a w, Q (.panic c) (a.put oi.dst undef) w → Q (.panic c) a w) (hw : Region.wanted oi (yielded ops a.tmps) = false) (hS : S w)
    (h : wpAnyL P md ops Q S M fuel (listed.setIfInBounds i true) (a.put oi.dst undef) w) : wpAnyL P md ops Q S M (fuel + 1) listed a w :=
  wpAnyL_first hi (Region.noSelect_spec hs) hQ hM fuel listed a w (Region.free_spec hi hf) (by simpa using hr) (.inr ⟨hw, rfl⟩) hS h

/-- The state at the loop's head, i acts being done. -/
def SafeI (w0 : World) (l : List Wc) (dv : Value) (i sf : Nat) (wv av : Value) (W : World) : Prop := ∃ sg fs, Lv w0 W wv dv av sg fs (recsOf sg) ∧ Gs sg fs sf (totB (l.take i) + 30 * i) i
theorem Wv.below {w w' : World} {v : Value} {l : List Wc} (h : Wv w v l) (hb : Below w.heap.size w w') : Wv w' v l := by
  letI := keepAll
  obtain ⟨ao, cap, e, h0, h1, h2⟩ := h
  refine ⟨ao, cap, e, h0, h1, fun i x hx => ?_⟩
  obtain ⟨b, off, vs, r1, ⟨bv, cv, e2, hB, hN⟩, r3⟩ := h2 i x hx
  exact ⟨b, off, vs, r1, ⟨bv, cv, e2, (hB.below hb).mono hb.size, hN.below hb⟩, fun j u hu => (hb.cell (p := ⟨b, off + i * 5 + j, none⟩) (World.block_lt_of_cell? w _ (r3 j u hu))).trans (r3 j u hu)⟩
theorem light_bound {l : List Wc} (h : LightL l) {i : Nat} (hi : i < l.length) : totB (l.take i) + 30 * i ≤ 42500 ∧ i ≤ 1000 ∧ totB (l.take i) + l[i].b.length + 30 * (i + 1) ≤ 42500 ∧ totB (l.take (i + 1)) = totB (l.take i) + l[i].b.length := by
  have e : totB (l.take (i + 1)) = totB (l.take i) + l[i].b.length := by rw [List.take_succ_eq_append_getElem hi, totB_snoc]
  have e2 : totB (l.take (i + 1)) ≤ totB l := by
    have := totB_append (l.take (i + 1)) (l.drop (i + 1))
    rw [List.take_append_drop] at this
    omega
  obtain ⟨h1, h2⟩ := h
  omega

set_option maxHeartbeats 8000000 in
theorem walsafe_of (l0 : List Wc) (lv : Value) (w : World) (hT : Tb w) (hV : Wv w lv l0) (hok0 : ∀ x ∈ l0, WcOk x) (hsz : ∀ x ∈ l0, x.b.length ≤ 4611686018427387) :
    Calls Tryz.prog 4 #[lv] w fun e w' => e = .returned (.bool true) ∧ Below w.heap.size w w' := by
  letI := keepAll
  have h0 := dnew_of w
  have h2w := hT.two
  have hlit : ∀ W, Below w.heap.size w W → Calls Tryz.prog 9 #[lv] W (LightT W lv l0) := fun W hb => light_of l0 lv W (hV.below hb) hsz
  obtain ⟨la, lc, rfl, -⟩ := id hV
  go_enter Tryz.func4, Tryz.ntmps4
  go_wp2_with fail
  refine h0.mono ?_
  rintro e w1 ⟨S1, d, rfl, hD1, hS1, hb1⟩
  have k1 := opens_of [] (hT.new hb1) hD1 (fun b hb => Nat.le_trans h2w (hS1 b hb)) ⟨(fun i x y hx => by simp at hx), (fun x hx => by cases hx), (fun x hx => by cases hx), trivial, (fun i x hx => by simp at hx), (fun x hx => by cases hx), by simp⟩ ⟨rfl, (fun i f x hf => by simp at hf)⟩
  obtain ⟨dq, rfl⟩ := hD1.shape
  clear h0
  go_wp2_with fail
  refine k1.mono ?_
  rintro e w2 ⟨v, U, rfl, g1, g2, g3⟩
  obtain ⟨_, _, vq, _, rfl, -⟩ := id g1.ex
  have hb2 : Below w.heap.size w1 w2 := ⟨g3.os, g3.tape, g3.output, g3.size, fun b hb => g3.block b (by have := hb1.size; omega) (fun hu => by have := hS1 b hu; omega)⟩
  have B2 := hb1.trans hb2
  have hx2 : Below w2.heap.size w2 (w2.alloc (.cells #[] 44)) := (Below.refl _ _).alloc (Nat.le_refl _) _
  have B3 := B2.trans (hx2.mono B2.size)
  have hI0 : ∀ l, SafeI w l (.pointer (some ⟨dq, 0, none⟩)) 0 0 (.pointer (some ⟨vq, 0, none⟩)) (.slice (some ⟨w2.heap.size, 0, none⟩) 0 0) (w2.alloc (.cells #[] 44)) := fun l => by
    have hL2 : Lg U w2 (.pointer (some ⟨vq, 0, none⟩)) (.pointer (some ⟨dq, 0, none⟩)) [] [] := g1
    refine ⟨[], [], ⟨⟨U, hL2.below hx2, fun b hb => (g2 b hb).elim (hS1 b) (fun h => Nat.le_trans hb1.size h), fun k hk => ?_⟩, Rc.empty _ _, B3⟩, Gs.nil _ _⟩
    cases hk
    exact ⟨B2.size, fun hu => Nat.lt_irrefl _ (hL2.lt _ hu)⟩
  have k2 := hlit _ B3
  clear k1 hD1 g1 g2 g3 hlit
  go_wp2_with fail
  refine k2.mono ?_
  rintro e w3 ⟨rfl, la2, lc2, kk, e2, rfl, hkk, hLL⟩
  cases e2
  have hok : ∀ x ∈ l0.take kk, WcOk x := fun x hx => hok0 x (List.mem_of_mem_take hx)
  have hV0 : Wv w (.slice la kk lc) (l0.take kk) := hV.took kk hkk
  have hkl : (l0.take kk).length = kk := by rw [List.length_take]; omega
  clear k2 hV hsz hok0
  generalize l0.take kk = l at *
  subst hkl
  have hI := hI0 l
  clear hI0
  obtain ⟨la', lc', e3, -, -, hat⟩ := id hV0
  cases e3
  go_wp2
  go_loopg [4, 6, 7, 8] l.length (fun g s4 s6 s7 s8 wr => ∃ i sf : Nat, i + g = l.length ∧ s8 = .int .i64 (i : Int) ∧ s7 = .int .i64 (sf : Int) ∧ SafeI w l (.pointer (some ⟨dq, 0, none⟩)) i sf s4 s6 wr)
  case atStart => exact ⟨0, 0, by simp, rfl, rfl, hI⟩
  case round =>
    obtain ⟨i, sf, hi, rfl, rfl, hSt⟩ := hrel
    clear hI hx2 B3 B2 hb2 hb1
    by_cases hlt : i < l.length
    · have hlti : (i : Int) < (l.length : Int) := by omega
      have hx : l[i]? = some l[i] := List.getElem?_eq_getElem hlt
      obtain ⟨b, off, vs, rfl, ⟨bv, cv, rfl, hB, hN⟩, hc⟩ := hat i l[i] hx
      obtain ⟨q1, q2, q3, q4⟩ := light_bound hLL hlt
      have hxk := hok l[i] (List.getElem_mem hlt)
      obtain ⟨sg, fs, hLv, hGs⟩ := hSt
      have hbw := hLv.bel
      have hcell : ∀ (j : Nat) (u : Value), [Value.int .i64 l[i].what, .int .u64 (l[i].idx : Int), .bool l[i].step, bv, cv][j]? = some u → wr.cell? ⟨b, off + i * 5 + j, none⟩ = some u := fun j u hu => (hbw.cell (p := ⟨b, off + i * 5 + j, none⟩) (World.block_lt_of_cell? w _ (hc j u hu))).trans (hc j u hu)
      have c0 := hcell 0 _ rfl
      have c1 := hcell 1 _ rfl
      have c2 := hcell 2 _ rfl
      have c3 := hcell 3 _ rfl
      have c4 := hcell 4 _ rfl
      rw [Nat.add_zero] at c0
      generalize l[i] = x at *
      obtain ⟨ab, cb, rfl, hb1, hb2, -⟩ := id hB
      obtain ⟨an, cn, rfl, -⟩ := id hN
      have hW := hGs.whole q1 q2
      have hF := hGs.few q1 q2
      have hlast := hGs.last
      have hcnt := hGs.cnt
      have hsf := hGs.safe
      obtain ⟨g, cap, hav, hcap1, hcap2, hgl⟩ := hLv.rc.shape
      obtain ⟨sq, _, rfl, -⟩ := hLv.shape
      subst hav
      have hxa : Below wr.heap.size wr (wr.alloc (.cells #[.int .i64 x.what, .int .u64 (x.idx : Int), .bool x.step, .slice ab x.b.length cb, .slice an x.cuts.length cn] 35)) := (Below.refl _ _).alloc (Nat.le_refl _) _
      have hLa := hLv.below hxa
      have hbk := heap_alloc_new wr (.cells #[.int .i64 x.what, .int .u64 (x.idx : Int), .bool x.step, .slice ab x.b.length cb, .slice an x.cuts.length cn] 35)
      have hsa : (wr.alloc (.cells #[.int .i64 x.what, .int .u64 (x.idx : Int), .bool x.step, .slice ab x.b.length cb, .slice an x.cuts.length cn] 35)).heap.size = wr.heap.size + 1 := by simp
      clear hcell hc hx hat hV0 hLv hbw
      generalize x.what = xw at *
      by_cases h1 : xw = 1
      · subst h1
        have k1 := lv_sync hT hLa hW
        have hSy := hGs.sync
        have hmon : totB (l.take i) + 30 * i ≤ totB (l.take (i + 1)) + 30 * (i + 1) := by omega
        have hfin : ∀ w' wv av, Lv w w' wv (.pointer (some ⟨dq, 0, none⟩)) av sg (syncF sg fs) (recsOf sg) → Hid (SafeI w l (.pointer (some ⟨dq, 0, none⟩)) (i + 1) (recsOf sg).length wv av w') := fun w' wv av h => ⟨sg, _, h, hSy.mono (Nat.le_refl _) hmon (by omega)⟩
        clear hSy hGs hLa hW hF hB hN hbk
        generalize recsOf sg = rs at *
        go_wp2_with fail
        refine k1.mono ?_
        rintro e w4 ⟨rfl, hL4⟩
        have hf := hfin w4 _ _ hL4
        clear k1 hfin hL4
        go_wp2
        go_roundg (gk - 1)
        case measure => omega
        case rel => exact ⟨i + 1, _, by omega, by go_num, rfl, hf.out⟩
      · by_cases h2 : xw = 2
        · subst h2
          have hmon : totB (l.take i) + 30 * i ≤ totB (l.take (i + 1)) + 30 * (i + 1) := by omega
          by_cases hn0 : (recsOf sg).length = 0
          · have hni : ¬ (0 : Int) < ((recsOf sg).length : Int) := by omega
            have hsi : ¬ ((recsOf sg).length : Int) < (sf : Int) := by omega
            have hf : Hid (SafeI w l (.pointer (some ⟨dq, 0, none⟩)) (i + 1) sf (.pointer (some ⟨sq, 0, none⟩)) (.slice (some ⟨g, 0, none⟩) (recsOf sg).length cap) _) := ⟨sg, _, hLa, hGs.mono (Nat.le_refl _) hmon (by omega)⟩
            clear hGs hLa hW hF hB hN hbk
            generalize recsOf sg = rs at *
            rw [hn0] at hf hni hsi ⊢
            clear hn0
            go_wp2
            go_roundg (gk - 1)
            case measure => omega
            case rel => exact ⟨i + 1, sf, by omega, by go_num, rfl, hf.out⟩
          · have hni : (0 : Int) < ((recsOf sg).length : Int) := by omega
            obtain ⟨k, hk⟩ : ∃ k, k = x.idx % (recsOf sg).length := ⟨_, rfl⟩
            have hkl : k < (recsOf sg).length := by rw [hk]; exact Nat.mod_lt _ (by omega)
            have hrm : ((x.idx : Int) % ((recsOf sg).length : Int)) = (k : Int) := by rw [hk, Int.natCast_emod]
            have hr := List.getElem?_eq_getElem hkl
            have hri := hGs.idx k _ hr
            obtain ⟨bv2, y1, -, -⟩ := hLa.rc.cells hr
            rw [hri, Nat.zero_add, Int.natCast_add] at y1
            have k1 := lv_cut hT hLa hW (k + 1) (by omega) (hGs.has k hkl)
            rw [Int.natCast_add] at k1
            have hx64 := hxk.1
            have hfin : ∀ w' ii t, sg[ii]? = some t → hasIx t (k + 1) → Lv w w' (.pointer (some ⟨sq, 0, none⟩)) (.pointer (some ⟨dq, 0, none⟩)) (.slice (some ⟨g, 0, none⟩) (recsOf sg).length cap) (cutSg sg ii t (k + 1 - firstIx t.recs)) (cutFs sg ii t (k + 1 - firstIx t.recs) fs) (recsOf sg) → ∀ sf', sf' ≤ min sf k → Hid (SafeI w l (.pointer (some ⟨dq, 0, none⟩)) (i + 1) sf' (.pointer (some ⟨sq, 0, none⟩)) (.slice (some ⟨g, 0, none⟩) k k) w') := fun w' ii t g1 g2 g3 sf' hs => by
              obtain ⟨e1, e2⟩ := hGs.cut g1 g2
              have g4 := g3.cutRow k (by omega)
              rw [← e1] at g4
              exact ⟨_, _, g4, e2.mono hs hmon (by omega)⟩
            have hk0 : ¬ (k : Int) < 0 := by omega
            have hkN : (k : Int) < ((recsOf sg).length : Int) := by omega
            have hkc : (k : Int) ≤ (cap : Int) := by omega
            have hcm : (cap : Int) ≤ 9223372036854775807 := by unfold maxLen at hcap2; omega
            have hNc : ((recsOf sg).length : Int) ≤ (cap : Int) := by omega
            clear hGs hLa hW hF hB hN hbk hr hri hlast hk hn0
            generalize recsOf sg = rs at *
            by_cases hs : k < sf
            · have hsi : (k : Int) < (sf : Int) := by omega
              go_wp2_with fail
              refine k1.mono ?_
              rintro e w4 ⟨rfl, ii, t, g1, g2, g3⟩
              have hf := hfin w4 ii t g1 g2 g3 k (by omega)
              clear k1 hfin g1 g2 g3 y1
              go_wp2
              go_roundg (gk - 1)
              case measure => omega
              case rel => exact ⟨i + 1, k, by omega, by go_num, rfl, hf.out⟩
            · have hsi : ¬ (k : Int) < (sf : Int) := by omega
              go_wp2_with fail
              refine k1.mono ?_
              rintro e w4 ⟨rfl, ii, t, g1, g2, g3⟩
              have hf := hfin w4 ii t g1 g2 g3 sf (by omega)
              clear k1 hfin g1 g2 g3 y1
              go_wp2
              go_roundg (gk - 1)
              case measure => omega
              case rel => exact ⟨i + 1, sf, by omega, by go_num, rfl, hf.out⟩
        · by_cases h4 : xw = 4
          · subst h4
            have hmon : totB (l.take i) + 30 * i ≤ totB (l.take (i + 1)) + 30 * (i + 1) := by omega
            obtain ⟨G, hG'⟩ : ∃ G, Hid (G = gk) := ⟨_, rfl⟩
            have kc := lv_crash x.cuts hLa hN
            obtain ⟨xs, hx1, hx2, m, hm1, hm2, hm3, hm4⟩ := hGs.crash x.cuts q1 q2
            have ko := fun w4 h => lv_open hT (W := w4) (dv := .pointer (some ⟨dq, 0, none⟩)) (av := .slice (some ⟨g, 0, none⟩) (recsOf sg).length cap) (al := recsOf sg) h xs hx1 hx2
            have hidx := hGs.idx
            have hokr := hGs.ok
            clear hx1 hx2 hW hF hB hN hbk hLa hGs
            generalize leaveF (xs.map cutS) (crash fs x.cuts) = fs5 at *
            generalize xs.map cutS = sg5 at *
            have hW5 := hm4.whole q1 q2
            have hl5 : lastIx 0 (recsOf sg5) = m := by rw [hm4.last, hm3, List.length_take, Nat.min_eq_left hm2]
            obtain ⟨N, hN'⟩ : ∃ N, Hid (N = (recsOf sg).length) := ⟨_, rfl⟩
            rw [← hN'.out] at hm2 hcap1 hcnt hsf kc ko ⊢
            clear hlast
            go_wp2_with fail
            refine kc.mono ?_
            rintro e w4 ⟨rfl, hD4⟩
            have ko4 := ko w4 hD4
            clear kc ko hD4
            go_wp2_with fail
            refine ko4.mono ?_
            rintro e w5 ⟨pq, rfl, hL5⟩
            clear ko4
            have kL : ∀ W', Below w5.heap.size w5 W' → Calls Tryz.prog 10 #[.pointer (some ⟨pq, 0, none⟩)] W' fun e w' => e = .returned (.int .u64 (m : Int)) ∧ Below W'.heap.size W' w' := fun W' hb => by
              have := lv_last hT (hL5.below hb) hW5
              rw [hl5] at this
              exact this
            have kG : ∀ W', Below w5.heap.size w5 W' → ∀ n : Nat, n ≤ 1000 → Calls Tryz.prog 24 #[.pointer (some ⟨pq, 0, none⟩), .int .u64 ((n : Int) + 1)] W' (GetT W' sg5 (n + 1)) := fun W' hb n hn => by
              have := lv_get hT (hL5.below hb) hW5 (n + 1) (by omega)
              rw [Int.natCast_add] at this
              exact this
            have hcel : ∀ W', Below w5.heap.size w5 W' → ∀ n, n < N → W'.cell? ⟨g, n * 2, none⟩ = some (.int .u64 ((n : Int) + 1)) := fun W' hb n hn => by
              have hr := List.getElem?_eq_getElem (show n < (recsOf sg).length by rw [← hN'.out]; exact hn)
              obtain ⟨bv2, y1, -, -⟩ := (hL5.below hb).rc.cells hr
              rw [hidx n _ hr, Nat.zero_add, Int.natCast_add] at y1
              exact y1
            have kNo : ∀ W', Below w5.heap.size w5 W' → Calls Tryz.prog 24 #[.pointer (some ⟨pq, 0, none⟩), .int .u64 ((m : Int) + 1)] W' fun e w' => e = .returned (.tuple #[.slice none 0 0, .bool false]) ∧ Below w5.heap.size w5 w' := fun W' hb => (kG W' hb m (by omega)).mono fun e w' h => by
              obtain ⟨h1, h2⟩ := h
              rcases h2 with ⟨s, hs, r, hr, hri, -⟩ | ⟨-, he⟩
              · have := hm4.rec_at hs hr hri
                rw [hm3, List.getElem?_take_eq_none (Nat.le_refl _)] at this
                cases this
              · exact ⟨he, hb.trans (h1.mono hb.size)⟩
            have kYes : ∀ W', Below w5.heap.size w5 W' → ∀ n, n < m → Calls Tryz.prog 24 #[.pointer (some ⟨pq, 0, none⟩), .int .u64 ((n : Int) + 1)] W' fun e w' => ∃ va vn vc va2 vn2 vc2 t, e = .returned (.tuple #[.slice va vn vc, .bool true]) ∧ Below w5.heap.size w5 w' ∧ (w'.drew.cell? ⟨g, n * 2 + 1, none⟩ = some (.slice va2 vn2 vc2) ∧ (convert 32 9 (.slice va vn vc)).run Tryz.prog w'.drew = .ok (.string t) w'.drew ∧ (convert 32 9 (.slice va2 vn2 vc2)).run Tryz.prog w'.drew = .ok (.string t) w'.drew) := fun W' hb n hn => (kG W' hb n (by omega)).mono fun e w' h => by
              obtain ⟨h1, h2⟩ := h
              have hb' := hb.trans (h1.mono hb.size)
              rcases h2 with ⟨s, hs, r, hr, hri, v, he, hBv⟩ | ⟨hno, -⟩
              · have hra := hm4.rec_at hs hr hri
                rw [hm3, List.getElem?_take_of_lt hn] at hra
                have h8 := (hokr r (List.mem_of_getElem? hra)).2.2.2
                have hd : Below w'.heap.size w' w'.drew := (Below.refl _ _).drew
                obtain ⟨bv2, -, y2, hB2⟩ := (hL5.below (hb'.trans (hd.mono hb'.size))).rc.cells hra
                have u1 := str_of (hBv.below hd) h8
                have u2 := str_of hB2 h8
                obtain ⟨va, vc, rfl, -⟩ := id hBv
                obtain ⟨va2, vc2, rfl, -⟩ := id hB2
                exact ⟨va, _, vc, va2, _, vc2, _, he, hb', y2, u1, u2⟩
              · obtain ⟨t, ht, hx⟩ := hm4.has n (by rw [hm3, List.length_take, ← hN'.out]; omega)
                exact absurd hx (hno t ht)
            have hfin : ∀ W', Below w5.heap.size w5 W' → Hid (SafeI w l (.pointer (some ⟨dq, 0, none⟩)) (i + 1) m (.pointer (some ⟨pq, 0, none⟩)) (.slice (some ⟨g, 0, none⟩) m m) W') := fun W' hb => by
              have h9 := (hL5.below hb).cutRow m (by rw [← hN'.out]; exact hm2)
              rw [← hm3] at h9
              exact ⟨_, _, h9, hm4.mono (Nat.le_refl _) hmon (by omega)⟩
            have hsm : ¬ (m : Int) < (sf : Int) := by omega
            have hmc : (m : Int) ≤ (cap : Int) := by omega
            have hm0 : ¬ (m : Int) < 0 := by omega
            have hcm : (cap : Int) ≤ 9223372036854775807 := by unfold maxLen at hcap2; omega
            clear hL5 hm4 hW5 hidx hokr hm3 hl5
            go_wp2
            go_loopg [12] m (fun g s12 wx => ∃ n : Nat, n + g = m ∧ s12 = .int .i64 (n : Int) ∧ Below w5.heap.size w5 wx)
            case atStart => exact ⟨0, by simp, rfl, Below.refl _ _⟩
            case round =>
              obtain ⟨n, hn, rfl, bx⟩ := hrel
              by_cases hnm : n < m
              · have hni : (n : Int) < (N : Int) := by omega
                have k6 := kYes wr bx n hnm
                have yc := hcel wr bx n (by omega)
                clear kYes kNo kL kG hfin hcel
                go_wp2_with fail
                refine k6.mono ?_
                rintro e w6 ⟨va, vn, vc, va2, vn2, vc2, t, rfl, b6, y0⟩
                clear k6 yc
                go_wp2
                go_region_held3 (fun w' => w'.cell? ⟨g, n * 2 + 1, none⟩ = some (.slice va2 vn2 vc2) ∧ (convert 32 9 (.slice va vn vc)).run Tryz.prog w' = .ok (.string t) w' ∧ (convert 32 9 (.slice va2 vn2 vc2)).run Tryz.prog w' = .ok (.string t) w')
                  (exact y0) (fail)
                go_wp2
                go_roundg (gk - 1)
                case measure => omega
                case rel => exact ⟨n + 1, by omega, by go_num, b6.drew⟩
              · have hnm' : n = m := by omega
                rw [hnm']
                clear kYes hnm hnm' hn
                by_cases hz : m = 0
                · have hsf0 : sf = 0 := by omega
                  subst hz
                  subst hsf0
                  rcases Nat.lt_or_ge 0 N with hmN | hmN
                  · have hmi : (0 : Int) < (N : Int) := by omega
                    have k6 := kNo wr bx
                    have yc := hcel wr bx 0 hmN
                    clear kNo
                    go_wp2_with fail
                    refine k6.mono ?_
                    rintro e w7 ⟨rfl, b7⟩
                    clear k6 yc
                    go_wp2
                    go_big_quiet (fail)
                    refine gen_world ?_
                    intro w8 hw8
                    have b8 : Below w5.heap.size w5 w8 := by rw [hw8]; first | exact below_drewN b7 _ | exact b7.drew | exact b7
                    clear hw8 b7
                    have kL8 : ∀ W', Below w8.heap.size w8 W' → Calls Tryz.prog 10 #[.pointer (some ⟨pq, 0, none⟩)] W' fun e w' => e = .returned (.int .u64 (0 : Int)) ∧ Below w8.heap.size w8 w' := fun W' hb => (kL W' (b8.trans (hb.mono b8.size))).mono fun e w' h => ⟨h.1, hb.trans (h.2.mono hb.size)⟩
                    have hd8 : Below w8.heap.size w8 w8.drew := (Below.refl _ _).drew
                    have kL9 := kL8 _ hd8
                    have hfin8 : ∀ W', Below w8.heap.size w8 W' → Hid (SafeI w l (.pointer (some ⟨dq, 0, none⟩)) (i + 1) 0 (.pointer (some ⟨pq, 0, none⟩)) (.slice (some ⟨g, 0, none⟩) 0 0) W') := fun W' hb => hfin W' (b8.trans (hb.mono b8.size))
                    clear hfin kL kG kL8 hcel
                    go_wp2
                    refine wp_region_L (fun w' => True) [] (by kernel_rfl) ?_
                    have yS : (fun w' : World => True) w8.drew := trivial
                    refine wpAnyL_take 0 rfl (by kernel_rfl) (by kernel_rfl) (by kernel_rfl) (by kernel_rfl) (fun _ _ _ h => h) (by kernel_rfl) (by intro w' x1; (try dsimp only at x1); go_simp <;> rfl) yS ?_
                    try simp only [List.getElem_toArray, List.getElem_cons_succ, List.getElem_cons_zero, Act.put, List.setIfInBounds_toArray, List.set_cons_zero, List.set_cons_succ]
                    refine wpAnyL_take 1 rfl (by kernel_rfl) (by kernel_rfl) (by kernel_rfl) (by kernel_rfl) (fun _ _ _ h => h) (by kernel_rfl) (by intro w' x1; (try dsimp only at x1); go_simp <;> rfl) yS ?_
                    try simp only [List.getElem_toArray, List.getElem_cons_succ, List.getElem_cons_zero, Act.put, List.setIfInBounds_toArray, List.set_cons_zero, List.set_cons_succ]
                    refine wpAnyL_take 2 rfl (by kernel_rfl) (by kernel_rfl) (by kernel_rfl) (by kernel_rfl) (fun _ _ _ h => h) (by kernel_rfl) (by intro w' x1; (try dsimp only at x1); go_simp <;> rfl) yS ?_
                    try simp only [List.getElem_toArray, List.getElem_cons_succ, List.getElem_cons_zero, Act.put, List.setIfInBounds_toArray, List.set_cons_zero, List.set_cons_succ]
                    refine wpAnyL_take 3 rfl (by kernel_rfl) (by kernel_rfl) (by kernel_rfl) (by kernel_rfl) (fun _ _ _ h => h) (by kernel_rfl) (by intro w' x1; (try dsimp only at x1); go_simp <;> rfl) yS ?_
                    try simp only [List.getElem_toArray, List.getElem_cons_succ, List.getElem_cons_zero, Act.put, List.setIfInBounds_toArray, List.set_cons_zero, List.set_cons_succ]
                    refine wpAnyL_take 4 rfl (by kernel_rfl) (by kernel_rfl) (by kernel_rfl) (by kernel_rfl) (fun _ _ _ h => h) (by kernel_rfl) (by intro w' x1; (try dsimp only at x1); go_simp <;> rfl) yS ?_
                    try simp only [List.getElem_toArray, List.getElem_cons_succ, List.getElem_cons_zero, Act.put, List.setIfInBounds_toArray, List.set_cons_zero, List.set_cons_succ]
                    refine wpAnyL_take 5 rfl (by kernel_rfl) (by kernel_rfl) (by kernel_rfl) (by kernel_rfl) (fun _ _ _ h => h) (by kernel_rfl) (by intro w' x1; (try dsimp only at x1); go_simp <;> rfl) yS ?_
                    try simp only [List.getElem_toArray, List.getElem_cons_succ, List.getElem_cons_zero, Act.put, List.setIfInBounds_toArray, List.set_cons_zero, List.set_cons_succ]
                    refine wpAnyL_take 6 rfl (by kernel_rfl) (by kernel_rfl) (by kernel_rfl) (by kernel_rfl) (fun _ _ _ h => h) (by kernel_rfl) (by intro w' x1; (try dsimp only at x1); go_simp <;> rfl) yS ?_
                    try simp only [List.getElem_toArray, List.getElem_cons_succ, List.getElem_cons_zero, Act.put, List.setIfInBounds_toArray, List.set_cons_zero, List.set_cons_succ]
                    refine wpAnyL_take 7 rfl (by kernel_rfl) (by kernel_rfl) (by kernel_rfl) (by kernel_rfl) (fun _ _ _ h => h) (by kernel_rfl) (by intro w' x1; (try dsimp only at x1); go_simp <;> rfl) yS ?_
                    try simp only [List.getElem_toArray, List.getElem_cons_succ, List.getElem_cons_zero, Act.put, List.setIfInBounds_toArray, List.set_cons_zero, List.set_cons_succ]
                    refine wpAnyL_one 8 (by kernel_rfl) rfl (by kernel_rfl) ?_
                    intro K' hK'
                    go_simp
                    go_at_call 10
                    refine kL9.mono ?_
                    rintro e w9 ⟨rfl, b9⟩
                    have yT : (fun w' : World => True) w9 := trivial
                    refine hK'.out _ _ (.inr yT) ?_
                    clear hK' K'
                    try simp only [List.getElem_toArray, List.getElem_cons_succ, List.getElem_cons_zero, Act.put, List.setIfInBounds_toArray, List.set_cons_zero, List.set_cons_succ]
                    refine wpAnyL_take 9 rfl (by kernel_rfl) (by kernel_rfl) (by kernel_rfl) (by kernel_rfl) (fun _ _ _ h => h) (by kernel_rfl) (by intro w' x1; (try dsimp only at x1); go_simp <;> rfl) yT ?_
                    try simp only [List.getElem_toArray, List.getElem_cons_succ, List.getElem_cons_zero, Act.put, List.setIfInBounds_toArray, List.set_cons_zero, List.set_cons_succ]
                    refine wpAnyL_take 10 rfl (by kernel_rfl) (by kernel_rfl) (by kernel_rfl) (by kernel_rfl) (fun _ _ _ h => h) (by kernel_rfl) (by intro w' x1; (try dsimp only at x1); go_simp <;> rfl) yT ?_
                    try simp only [List.getElem_toArray, List.getElem_cons_succ, List.getElem_cons_zero, Act.put, List.setIfInBounds_toArray, List.set_cons_zero, List.set_cons_succ]
                    refine wpAnyL_take 11 rfl (by kernel_rfl) (by kernel_rfl) (by kernel_rfl) (by kernel_rfl) (fun _ _ _ h => h) (by kernel_rfl) (by intro w' x1; (try dsimp only at x1); go_simp <;> rfl) yT ?_
                    try simp only [List.getElem_toArray, List.getElem_cons_succ, List.getElem_cons_zero, Act.put, List.setIfInBounds_toArray, List.set_cons_zero, List.set_cons_succ]
                    refine wpAnyL_take 12 rfl (by kernel_rfl) (by kernel_rfl) (by kernel_rfl) (by kernel_rfl) (fun _ _ _ h => h) (by kernel_rfl) (by intro w' x1; (try dsimp only at x1); go_simp <;> rfl) yT ?_
                    try simp only [List.getElem_toArray, List.getElem_cons_succ, List.getElem_cons_zero, Act.put, List.setIfInBounds_toArray, List.set_cons_zero, List.set_cons_succ]
                    refine wpAnyL_take 13 rfl (by kernel_rfl) (by kernel_rfl) (by kernel_rfl) (by kernel_rfl) (fun _ _ _ h => h) (by kernel_rfl) (by intro w' x1; (try dsimp only at x1); go_simp <;> rfl) yT ?_
                    try simp only [List.getElem_toArray, List.getElem_cons_succ, List.getElem_cons_zero, Act.put, List.setIfInBounds_toArray, List.set_cons_zero, List.set_cons_succ]
                    refine wpAnyL_take 14 rfl (by kernel_rfl) (by kernel_rfl) (by kernel_rfl) (by kernel_rfl) (fun _ _ _ h => h) (by kernel_rfl) (by intro w' x1; (try dsimp only at x1); go_simp <;> rfl) yT ?_
                    try simp only [List.getElem_toArray, List.getElem_cons_succ, List.getElem_cons_zero, Act.put, List.setIfInBounds_toArray, List.set_cons_zero, List.set_cons_succ]
                    refine wpAnyL_take 15 rfl (by kernel_rfl) (by kernel_rfl) (by kernel_rfl) (by kernel_rfl) (fun _ _ _ h => h) (by kernel_rfl) (by intro w' x1; (try dsimp only at x1); go_simp <;> rfl) yT ?_
                    try simp only [List.getElem_toArray, List.getElem_cons_succ, List.getElem_cons_zero, Act.put, List.setIfInBounds_toArray, List.set_cons_zero, List.set_cons_succ]
                    refine wpAnyL_skip 16 rfl (by kernel_rfl) (by kernel_rfl) (by kernel_rfl) (by kernel_rfl) (fun _ _ _ h => h) (by kernel_rfl) yT ?_
                    try simp only [List.getElem_toArray, List.getElem_cons_succ, List.getElem_cons_zero, Act.put, List.setIfInBounds_toArray, List.set_cons_zero, List.set_cons_succ]
                    refine wpAnyL_skip 17 rfl (by kernel_rfl) (by kernel_rfl) (by kernel_rfl) (by kernel_rfl) (fun _ _ _ h => h) (by kernel_rfl) yT ?_
                    try simp only [List.getElem_toArray, List.getElem_cons_succ, List.getElem_cons_zero, Act.put, List.setIfInBounds_toArray, List.set_cons_zero, List.set_cons_succ]
                    refine wpAnyL_skip 18 rfl (by kernel_rfl) (by kernel_rfl) (by kernel_rfl) (by kernel_rfl) (fun _ _ _ h => h) (by kernel_rfl) yT ?_
                    try simp only [List.getElem_toArray, List.getElem_cons_succ, List.getElem_cons_zero, Act.put, List.setIfInBounds_toArray, List.set_cons_zero, List.set_cons_succ]
                    refine wpAnyL_skip 19 rfl (by kernel_rfl) (by kernel_rfl) (by kernel_rfl) (by kernel_rfl) (fun _ _ _ h => h) (by kernel_rfl) yT ?_
                    try simp only [List.getElem_toArray, List.getElem_cons_succ, List.getElem_cons_zero, Act.put, List.setIfInBounds_toArray, List.set_cons_zero, List.set_cons_succ]
                    refine wpAnyL_skip 20 rfl (by kernel_rfl) (by kernel_rfl) (by kernel_rfl) (by kernel_rfl) (fun _ _ _ h => h) (by kernel_rfl) yT ?_
                    try simp only [List.getElem_toArray, List.getElem_cons_succ, List.getElem_cons_zero, Act.put, List.setIfInBounds_toArray, List.set_cons_zero, List.set_cons_succ]
                    refine wpAnyL_skip 21 rfl (by kernel_rfl) (by kernel_rfl) (by kernel_rfl) (by kernel_rfl) (fun _ _ _ h => h) (by kernel_rfl) yT ?_
                    try simp only [List.getElem_toArray, List.getElem_cons_succ, List.getElem_cons_zero, Act.put, List.setIfInBounds_toArray, List.set_cons_zero, List.set_cons_succ]
                    refine wpAnyL_skip 22 rfl (by kernel_rfl) (by kernel_rfl) (by kernel_rfl) (by kernel_rfl) (fun _ _ _ h => h) (by kernel_rfl) yT ?_
                    try simp only [List.getElem_toArray, List.getElem_cons_succ, List.getElem_cons_zero, Act.put, List.setIfInBounds_toArray, List.set_cons_zero, List.set_cons_succ]
                    refine wpAnyL_skip 23 rfl (by kernel_rfl) (by kernel_rfl) (by kernel_rfl) (by kernel_rfl) (fun _ _ _ h => h) (by kernel_rfl) yT ?_
                    try simp only [List.getElem_toArray, List.getElem_cons_succ, List.getElem_cons_zero, Act.put, List.setIfInBounds_toArray, List.set_cons_zero, List.set_cons_succ]
                    refine wpAnyL_skip 24 rfl (by kernel_rfl) (by kernel_rfl) (by kernel_rfl) (by kernel_rfl) (fun _ _ _ h => h) (by kernel_rfl) yT ?_
                    try simp only [List.getElem_toArray, List.getElem_cons_succ, List.getElem_cons_zero, Act.put, List.setIfInBounds_toArray, List.set_cons_zero, List.set_cons_succ]
                    refine wpAnyL_take 25 rfl (by kernel_rfl) (by kernel_rfl) (by kernel_rfl) (by kernel_rfl) (fun _ _ _ h => h) (by kernel_rfl) (by intro w' x1; (try dsimp only at x1); go_simp <;> rfl) yT ?_
                    try simp only [List.getElem_toArray, List.getElem_cons_succ, List.getElem_cons_zero, Act.put, List.setIfInBounds_toArray, List.set_cons_zero, List.set_cons_succ]
                    refine wpAnyL_take 26 rfl (by kernel_rfl) (by kernel_rfl) (by kernel_rfl) (by kernel_rfl) (fun _ _ _ h => h) (by kernel_rfl) (by intro w' x1; (try dsimp only at x1); go_simp <;> rfl) yT ?_
                    try simp only [List.getElem_toArray, List.getElem_cons_succ, List.getElem_cons_zero, Act.put, List.setIfInBounds_toArray, List.set_cons_zero, List.set_cons_succ]
                    refine wpAnyL_done (by kernel_rfl) (NoPanic.normal ?_) _
                    have hf := hfin8 _ b9
                    clear hfin8 kL9
                    go_wp2
                    go_roundg (G - 1)
                    case measure => have := hG'.out; omega
                    case rel => exact ⟨i + 1, 0, by have := hG'.out; omega, by go_num, rfl, hf.out⟩
                  · have hmi : ¬ (0 : Int) < (N : Int) := by omega
                    clear kNo
                    obtain ⟨w8, hw8⟩ : ∃ w8, w8 = wr := ⟨_, rfl⟩
                    have b8 : Below w5.heap.size w5 w8 := by rw [hw8]; exact bx
                    rw [← hw8]
                    clear hw8 bx
                    have kL8 : ∀ W', Below w8.heap.size w8 W' → Calls Tryz.prog 10 #[.pointer (some ⟨pq, 0, none⟩)] W' fun e w' => e = .returned (.int .u64 (0 : Int)) ∧ Below w8.heap.size w8 w' := fun W' hb => (kL W' (b8.trans (hb.mono b8.size))).mono fun e w' h => ⟨h.1, hb.trans (h.2.mono hb.size)⟩
                    have hd8 : Below w8.heap.size w8 w8.drew := (Below.refl _ _).drew
                    have kL9 := kL8 _ hd8
                    have hfin8 : ∀ W', Below w8.heap.size w8 W' → Hid (SafeI w l (.pointer (some ⟨dq, 0, none⟩)) (i + 1) 0 (.pointer (some ⟨pq, 0, none⟩)) (.slice (some ⟨g, 0, none⟩) 0 0) W') := fun W' hb => hfin W' (b8.trans (hb.mono b8.size))
                    clear hfin kL kG kL8 hcel
                    go_wp2
                    refine wp_region_L (fun w' => True) [] (by kernel_rfl) ?_
                    have yS : (fun w' : World => True) w8.drew := trivial
                    refine wpAnyL_take 0 rfl (by kernel_rfl) (by kernel_rfl) (by kernel_rfl) (by kernel_rfl) (fun _ _ _ h => h) (by kernel_rfl) (by intro w' x1; (try dsimp only at x1); go_simp <;> rfl) yS ?_
                    try simp only [List.getElem_toArray, List.getElem_cons_succ, List.getElem_cons_zero, Act.put, List.setIfInBounds_toArray, List.set_cons_zero, List.set_cons_succ]
                    refine wpAnyL_take 1 rfl (by kernel_rfl) (by kernel_rfl) (by kernel_rfl) (by kernel_rfl) (fun _ _ _ h => h) (by kernel_rfl) (by intro w' x1; (try dsimp only at x1); go_simp <;> rfl) yS ?_
                    try simp only [List.getElem_toArray, List.getElem_cons_succ, List.getElem_cons_zero, Act.put, List.setIfInBounds_toArray, List.set_cons_zero, List.set_cons_succ]
                    refine wpAnyL_take 2 rfl (by kernel_rfl) (by kernel_rfl) (by kernel_rfl) (by kernel_rfl) (fun _ _ _ h => h) (by kernel_rfl) (by intro w' x1; (try dsimp only at x1); go_simp <;> rfl) yS ?_
                    try simp only [List.getElem_toArray, List.getElem_cons_succ, List.getElem_cons_zero, Act.put, List.setIfInBounds_toArray, List.set_cons_zero, List.set_cons_succ]
                    refine wpAnyL_take 3 rfl (by kernel_rfl) (by kernel_rfl) (by kernel_rfl) (by kernel_rfl) (fun _ _ _ h => h) (by kernel_rfl) (by intro w' x1; (try dsimp only at x1); go_simp <;> rfl) yS ?_
                    try simp only [List.getElem_toArray, List.getElem_cons_succ, List.getElem_cons_zero, Act.put, List.setIfInBounds_toArray, List.set_cons_zero, List.set_cons_succ]
                    refine wpAnyL_take 4 rfl (by kernel_rfl) (by kernel_rfl) (by kernel_rfl) (by kernel_rfl) (fun _ _ _ h => h) (by kernel_rfl) (by intro w' x1; (try dsimp only at x1); go_simp <;> rfl) yS ?_
                    try simp only [List.getElem_toArray, List.getElem_cons_succ, List.getElem_cons_zero, Act.put, List.setIfInBounds_toArray, List.set_cons_zero, List.set_cons_succ]
                    refine wpAnyL_take 5 rfl (by kernel_rfl) (by kernel_rfl) (by kernel_rfl) (by kernel_rfl) (fun _ _ _ h => h) (by kernel_rfl) (by intro w' x1; (try dsimp only at x1); go_simp <;> rfl) yS ?_
                    try simp only [List.getElem_toArray, List.getElem_cons_succ, List.getElem_cons_zero, Act.put, List.setIfInBounds_toArray, List.set_cons_zero, List.set_cons_succ]
                    refine wpAnyL_take 6 rfl (by kernel_rfl) (by kernel_rfl) (by kernel_rfl) (by kernel_rfl) (fun _ _ _ h => h) (by kernel_rfl) (by intro w' x1; (try dsimp only at x1); go_simp <;> rfl) yS ?_
                    try simp only [List.getElem_toArray, List.getElem_cons_succ, List.getElem_cons_zero, Act.put, List.setIfInBounds_toArray, List.set_cons_zero, List.set_cons_succ]
                    refine wpAnyL_take 7 rfl (by kernel_rfl) (by kernel_rfl) (by kernel_rfl) (by kernel_rfl) (fun _ _ _ h => h) (by kernel_rfl) (by intro w' x1; (try dsimp only at x1); go_simp <;> rfl) yS ?_
                    try simp only [List.getElem_toArray, List.getElem_cons_succ, List.getElem_cons_zero, Act.put, List.setIfInBounds_toArray, List.set_cons_zero, List.set_cons_succ]
                    refine wpAnyL_one 8 (by kernel_rfl) rfl (by kernel_rfl) ?_
                    intro K' hK'
                    go_simp
                    go_at_call 10
                    refine kL9.mono ?_
                    rintro e w9 ⟨rfl, b9⟩
                    have yT : (fun w' : World => True) w9 := trivial
                    refine hK'.out _ _ (.inr yT) ?_
                    clear hK' K'
                    try simp only [List.getElem_toArray, List.getElem_cons_succ, List.getElem_cons_zero, Act.put, List.setIfInBounds_toArray, List.set_cons_zero, List.set_cons_succ]
                    refine wpAnyL_take 9 rfl (by kernel_rfl) (by kernel_rfl) (by kernel_rfl) (by kernel_rfl) (fun _ _ _ h => h) (by kernel_rfl) (by intro w' x1; (try dsimp only at x1); go_simp <;> rfl) yT ?_
                    try simp only [List.getElem_toArray, List.getElem_cons_succ, List.getElem_cons_zero, Act.put, List.setIfInBounds_toArray, List.set_cons_zero, List.set_cons_succ]
                    refine wpAnyL_take 10 rfl (by kernel_rfl) (by kernel_rfl) (by kernel_rfl) (by kernel_rfl) (fun _ _ _ h => h) (by kernel_rfl) (by intro w' x1; (try dsimp only at x1); go_simp <;> rfl) yT ?_
                    try simp only [List.getElem_toArray, List.getElem_cons_succ, List.getElem_cons_zero, Act.put, List.setIfInBounds_toArray, List.set_cons_zero, List.set_cons_succ]
                    refine wpAnyL_take 11 rfl (by kernel_rfl) (by kernel_rfl) (by kernel_rfl) (by kernel_rfl) (fun _ _ _ h => h) (by kernel_rfl) (by intro w' x1; (try dsimp only at x1); go_simp <;> rfl) yT ?_
                    try simp only [List.getElem_toArray, List.getElem_cons_succ, List.getElem_cons_zero, Act.put, List.setIfInBounds_toArray, List.set_cons_zero, List.set_cons_succ]
                    refine wpAnyL_take 12 rfl (by kernel_rfl) (by kernel_rfl) (by kernel_rfl) (by kernel_rfl) (fun _ _ _ h => h) (by kernel_rfl) (by intro w' x1; (try dsimp only at x1); go_simp <;> rfl) yT ?_
                    try simp only [List.getElem_toArray, List.getElem_cons_succ, List.getElem_cons_zero, Act.put, List.setIfInBounds_toArray, List.set_cons_zero, List.set_cons_succ]
                    refine wpAnyL_take 13 rfl (by kernel_rfl) (by kernel_rfl) (by kernel_rfl) (by kernel_rfl) (fun _ _ _ h => h) (by kernel_rfl) (by intro w' x1; (try dsimp only at x1); go_simp <;> rfl) yT ?_
                    try simp only [List.getElem_toArray, List.getElem_cons_succ, List.getElem_cons_zero, Act.put, List.setIfInBounds_toArray, List.set_cons_zero, List.set_cons_succ]
                    refine wpAnyL_take 14 rfl (by kernel_rfl) (by kernel_rfl) (by kernel_rfl) (by kernel_rfl) (fun _ _ _ h => h) (by kernel_rfl) (by intro w' x1; (try dsimp only at x1); go_simp <;> rfl) yT ?_
                    try simp only [List.getElem_toArray, List.getElem_cons_succ, List.getElem_cons_zero, Act.put, List.setIfInBounds_toArray, List.set_cons_zero, List.set_cons_succ]
                    refine wpAnyL_take 15 rfl (by kernel_rfl) (by kernel_rfl) (by kernel_rfl) (by kernel_rfl) (fun _ _ _ h => h) (by kernel_rfl) (by intro w' x1; (try dsimp only at x1); go_simp <;> rfl) yT ?_
                    try simp only [List.getElem_toArray, List.getElem_cons_succ, List.getElem_cons_zero, Act.put, List.setIfInBounds_toArray, List.set_cons_zero, List.set_cons_succ]
                    refine wpAnyL_skip 16 rfl (by kernel_rfl) (by kernel_rfl) (by kernel_rfl) (by kernel_rfl) (fun _ _ _ h => h) (by kernel_rfl) yT ?_
                    try simp only [List.getElem_toArray, List.getElem_cons_succ, List.getElem_cons_zero, Act.put, List.setIfInBounds_toArray, List.set_cons_zero, List.set_cons_succ]
                    refine wpAnyL_skip 17 rfl (by kernel_rfl) (by kernel_rfl) (by kernel_rfl) (by kernel_rfl) (fun _ _ _ h => h) (by kernel_rfl) yT ?_
                    try simp only [List.getElem_toArray, List.getElem_cons_succ, List.getElem_cons_zero, Act.put, List.setIfInBounds_toArray, List.set_cons_zero, List.set_cons_succ]
                    refine wpAnyL_skip 18 rfl (by kernel_rfl) (by kernel_rfl) (by kernel_rfl) (by kernel_rfl) (fun _ _ _ h => h) (by kernel_rfl) yT ?_
                    try simp only [List.getElem_toArray, List.getElem_cons_succ, List.getElem_cons_zero, Act.put, List.setIfInBounds_toArray, List.set_cons_zero, List.set_cons_succ]
                    refine wpAnyL_skip 19 rfl (by kernel_rfl) (by kernel_rfl) (by kernel_rfl) (by kernel_rfl) (fun _ _ _ h => h) (by kernel_rfl) yT ?_
                    try simp only [List.getElem_toArray, List.getElem_cons_succ, List.getElem_cons_zero, Act.put, List.setIfInBounds_toArray, List.set_cons_zero, List.set_cons_succ]
                    refine wpAnyL_skip 20 rfl (by kernel_rfl) (by kernel_rfl) (by kernel_rfl) (by kernel_rfl) (fun _ _ _ h => h) (by kernel_rfl) yT ?_
                    try simp only [List.getElem_toArray, List.getElem_cons_succ, List.getElem_cons_zero, Act.put, List.setIfInBounds_toArray, List.set_cons_zero, List.set_cons_succ]
                    refine wpAnyL_skip 21 rfl (by kernel_rfl) (by kernel_rfl) (by kernel_rfl) (by kernel_rfl) (fun _ _ _ h => h) (by kernel_rfl) yT ?_
                    try simp only [List.getElem_toArray, List.getElem_cons_succ, List.getElem_cons_zero, Act.put, List.setIfInBounds_toArray, List.set_cons_zero, List.set_cons_succ]
                    refine wpAnyL_skip 22 rfl (by kernel_rfl) (by kernel_rfl) (by kernel_rfl) (by kernel_rfl) (fun _ _ _ h => h) (by kernel_rfl) yT ?_
                    try simp only [List.getElem_toArray, List.getElem_cons_succ, List.getElem_cons_zero, Act.put, List.setIfInBounds_toArray, List.set_cons_zero, List.set_cons_succ]
                    refine wpAnyL_skip 23 rfl (by kernel_rfl) (by kernel_rfl) (by kernel_rfl) (by kernel_rfl) (fun _ _ _ h => h) (by kernel_rfl) yT ?_
                    try simp only [List.getElem_toArray, List.getElem_cons_succ, List.getElem_cons_zero, Act.put, List.setIfInBounds_toArray, List.set_cons_zero, List.set_cons_succ]
                    refine wpAnyL_skip 24 rfl (by kernel_rfl) (by kernel_rfl) (by kernel_rfl) (by kernel_rfl) (fun _ _ _ h => h) (by kernel_rfl) yT ?_
                    try simp only [List.getElem_toArray, List.getElem_cons_succ, List.getElem_cons_zero, Act.put, List.setIfInBounds_toArray, List.set_cons_zero, List.set_cons_succ]
                    refine wpAnyL_take 25 rfl (by kernel_rfl) (by kernel_rfl) (by kernel_rfl) (by kernel_rfl) (fun _ _ _ h => h) (by kernel_rfl) (by intro w' x1; (try dsimp only at x1); go_simp <;> rfl) yT ?_
                    try simp only [List.getElem_toArray, List.getElem_cons_succ, List.getElem_cons_zero, Act.put, List.setIfInBounds_toArray, List.set_cons_zero, List.set_cons_succ]
                    refine wpAnyL_take 26 rfl (by kernel_rfl) (by kernel_rfl) (by kernel_rfl) (by kernel_rfl) (fun _ _ _ h => h) (by kernel_rfl) (by intro w' x1; (try dsimp only at x1); go_simp <;> rfl) yT ?_
                    try simp only [List.getElem_toArray, List.getElem_cons_succ, List.getElem_cons_zero, Act.put, List.setIfInBounds_toArray, List.set_cons_zero, List.set_cons_succ]
                    refine wpAnyL_done (by kernel_rfl) (NoPanic.normal ?_) _
                    have hf := hfin8 _ b9
                    clear hfin8 kL9
                    go_wp2
                    go_roundg (G - 1)
                    case measure => have := hG'.out; omega
                    case rel => exact ⟨i + 1, 0, by have := hG'.out; omega, by go_num, rfl, hf.out⟩
                · have z1 : ((m : Int) == 0) = false := by simp [hz]
                  have z2 : (0 : Int) < (m : Int) := by omega
                  obtain ⟨p, hp⟩ : ∃ p, m = p + 1 := ⟨m - 1, by omega⟩
                  have z3 : IntKind.i64.wrap ((m : Int) - 1) = (p : Int) := by
                    rw [show (m : Int) - 1 = (p : Int) by omega]
                    exact IntWalk.i64_in _ (by omega)
                  have z4 : (p : Int) < (N : Int) := by omega
                  have z5 : ¬ (p : Int) < 0 := by omega
                  have hlst : ∀ W', Below w5.heap.size w5 W' → W'.cell? ⟨g, p * 2, none⟩ = some (.int .u64 (m : Int)) := fun W' hb => by
                    have := hcel W' hb p (by omega)
                    rw [show (p : Int) + 1 = (m : Int) by omega] at this
                    exact this
                  have z9 : 0 < m := by omega
                  have z10 : ¬ m < sf := by omega
                  clear hp
                  rcases Nat.lt_or_ge m N with hmN | hmN
                  · have hmi : (m : Int) < (N : Int) := by omega
                    have k6 := kNo wr bx
                    have yc := hcel wr bx m hmN
                    clear kNo
                    go_wp2_with fail
                    refine k6.mono ?_
                    rintro e w7 ⟨rfl, b7⟩
                    clear k6 yc
                    go_wp2
                    go_big_quiet (fail)
                    refine gen_world ?_
                    intro w8 hw8
                    have b8 : Below w5.heap.size w5 w8 := by rw [hw8]; first | exact below_drewN b7 _ | exact b7.drew | exact b7
                    clear hw8 b7
                    have kL8 : ∀ W', Below w8.heap.size w8 W' → Calls Tryz.prog 10 #[.pointer (some ⟨pq, 0, none⟩)] W' fun e w' => e = .returned (.int .u64 (m : Int)) ∧ Below w8.heap.size w8 w' := fun W' hb => (kL W' (b8.trans (hb.mono b8.size))).mono fun e w' h => ⟨h.1, hb.trans (h.2.mono hb.size)⟩
                    have hd8 : Below w8.heap.size w8 w8.drew := (Below.refl _ _).drew
                    have kL9 := kL8 _ hd8
                    have hfin8 : ∀ W', Below w8.heap.size w8 W' → Hid (SafeI w l (.pointer (some ⟨dq, 0, none⟩)) (i + 1) m (.pointer (some ⟨pq, 0, none⟩)) (.slice (some ⟨g, 0, none⟩) m m) W') := fun W' hb => hfin W' (b8.trans (hb.mono b8.size))
                    clear hfin kL kG kL8 hcel
                    have y8 := hlst _ (b8.trans (hd8.mono b8.size))
                    have hl9 : ∀ W', Below w8.heap.size w8 W' → W'.cell? ⟨g, p * 2, none⟩ = some (.int .u64 (m : Int)) := fun W' hb => hlst _ (b8.trans (hb.mono b8.size))
                    clear hlst
                    go_wp2
                    refine wp_region_L (fun w' => w'.cell? ⟨g, p * 2, none⟩ = some (.int .u64 (m : Int))) [] (by kernel_rfl) ?_
                    have yS : (fun w' : World => w'.cell? ⟨g, p * 2, none⟩ = some (.int .u64 (m : Int))) w8.drew := y8
                    refine wpAnyL_take 0 rfl (by kernel_rfl) (by kernel_rfl) (by kernel_rfl) (by kernel_rfl) (fun _ _ _ h => h) (by kernel_rfl) (by intro w' x1; (try dsimp only at x1); go_simp <;> rfl) yS ?_
                    try simp only [List.getElem_toArray, List.getElem_cons_succ, List.getElem_cons_zero, Act.put, List.setIfInBounds_toArray, List.set_cons_zero, List.set_cons_succ]
                    refine wpAnyL_take 1 rfl (by kernel_rfl) (by kernel_rfl) (by kernel_rfl) (by kernel_rfl) (fun _ _ _ h => h) (by kernel_rfl) (by intro w' x1; (try dsimp only at x1); go_simp <;> rfl) yS ?_
                    try simp only [List.getElem_toArray, List.getElem_cons_succ, List.getElem_cons_zero, Act.put, List.setIfInBounds_toArray, List.set_cons_zero, List.set_cons_succ]
                    refine wpAnyL_take 2 rfl (by kernel_rfl) (by kernel_rfl) (by kernel_rfl) (by kernel_rfl) (fun _ _ _ h => h) (by kernel_rfl) (by intro w' x1; (try dsimp only at x1); go_simp <;> rfl) yS ?_
                    try simp only [List.getElem_toArray, List.getElem_cons_succ, List.getElem_cons_zero, Act.put, List.setIfInBounds_toArray, List.set_cons_zero, List.set_cons_succ]
                    refine wpAnyL_take 3 rfl (by kernel_rfl) (by kernel_rfl) (by kernel_rfl) (by kernel_rfl) (fun _ _ _ h => h) (by kernel_rfl) (by intro w' x1; (try dsimp only at x1); go_simp <;> rfl) yS ?_
                    try simp only [List.getElem_toArray, List.getElem_cons_succ, List.getElem_cons_zero, Act.put, List.setIfInBounds_toArray, List.set_cons_zero, List.set_cons_succ]
                    refine wpAnyL_take 4 rfl (by kernel_rfl) (by kernel_rfl) (by kernel_rfl) (by kernel_rfl) (fun _ _ _ h => h) (by kernel_rfl) (by intro w' x1; (try dsimp only at x1); go_simp <;> rfl) yS ?_
                    try simp only [List.getElem_toArray, List.getElem_cons_succ, List.getElem_cons_zero, Act.put, List.setIfInBounds_toArray, List.set_cons_zero, List.set_cons_succ]
                    refine wpAnyL_take 5 rfl (by kernel_rfl) (by kernel_rfl) (by kernel_rfl) (by kernel_rfl) (fun _ _ _ h => h) (by kernel_rfl) (by intro w' x1; (try dsimp only at x1); go_simp <;> rfl) yS ?_
                    try simp only [List.getElem_toArray, List.getElem_cons_succ, List.getElem_cons_zero, Act.put, List.setIfInBounds_toArray, List.set_cons_zero, List.set_cons_succ]
                    refine wpAnyL_take 6 rfl (by kernel_rfl) (by kernel_rfl) (by kernel_rfl) (by kernel_rfl) (fun _ _ _ h => h) (by kernel_rfl) (by intro w' x1; (try dsimp only at x1); go_simp <;> rfl) yS ?_
                    try simp only [List.getElem_toArray, List.getElem_cons_succ, List.getElem_cons_zero, Act.put, List.setIfInBounds_toArray, List.set_cons_zero, List.set_cons_succ]
                    refine wpAnyL_skip 7 rfl (by kernel_rfl) (by kernel_rfl) (by kernel_rfl) (by kernel_rfl) (fun _ _ _ h => h) (by kernel_rfl) yS ?_
                    try simp only [List.getElem_toArray, List.getElem_cons_succ, List.getElem_cons_zero, Act.put, List.setIfInBounds_toArray, List.set_cons_zero, List.set_cons_succ]
                    refine wpAnyL_skip 8 rfl (by kernel_rfl) (by kernel_rfl) (by kernel_rfl) (by kernel_rfl) (fun _ _ _ h => h) (by kernel_rfl) yS ?_
                    try simp only [List.getElem_toArray, List.getElem_cons_succ, List.getElem_cons_zero, Act.put, List.setIfInBounds_toArray, List.set_cons_zero, List.set_cons_succ]
                    refine wpAnyL_skip 9 rfl (by kernel_rfl) (by kernel_rfl) (by kernel_rfl) (by kernel_rfl) (fun _ _ _ h => h) (by kernel_rfl) yS ?_
                    try simp only [List.getElem_toArray, List.getElem_cons_succ, List.getElem_cons_zero, Act.put, List.setIfInBounds_toArray, List.set_cons_zero, List.set_cons_succ]
                    refine wpAnyL_take 10 rfl (by kernel_rfl) (by kernel_rfl) (by kernel_rfl) (by kernel_rfl) (fun _ _ _ h => h) (by kernel_rfl) (by intro w' x1; (try dsimp only at x1); go_simp <;> rfl) yS ?_
                    try simp only [List.getElem_toArray, List.getElem_cons_succ, List.getElem_cons_zero, Act.put, List.setIfInBounds_toArray, List.set_cons_zero, List.set_cons_succ]
                    refine wpAnyL_take 11 rfl (by kernel_rfl) (by kernel_rfl) (by kernel_rfl) (by kernel_rfl) (fun _ _ _ h => h) (by kernel_rfl) (by intro w' x1; (try dsimp only at x1); go_simp <;> rfl) yS ?_
                    try simp only [List.getElem_toArray, List.getElem_cons_succ, List.getElem_cons_zero, Act.put, List.setIfInBounds_toArray, List.set_cons_zero, List.set_cons_succ]
                    refine wpAnyL_take 12 rfl (by kernel_rfl) (by kernel_rfl) (by kernel_rfl) (by kernel_rfl) (fun _ _ _ h => h) (by kernel_rfl) (by intro w' x1; (try dsimp only at x1); go_simp <;> rfl) yS ?_
                    try simp only [List.getElem_toArray, List.getElem_cons_succ, List.getElem_cons_zero, Act.put, List.setIfInBounds_toArray, List.set_cons_zero, List.set_cons_succ]
                    refine wpAnyL_take 13 rfl (by kernel_rfl) (by kernel_rfl) (by kernel_rfl) (by kernel_rfl) (fun _ _ _ h => h) (by kernel_rfl) (by intro w' x1; (try dsimp only at x1); go_simp <;> rfl) yS ?_
                    try simp only [List.getElem_toArray, List.getElem_cons_succ, List.getElem_cons_zero, Act.put, List.setIfInBounds_toArray, List.set_cons_zero, List.set_cons_succ]
                    refine wpAnyL_take 14 rfl (by kernel_rfl) (by kernel_rfl) (by kernel_rfl) (by kernel_rfl) (fun _ _ _ h => h) (by kernel_rfl) (by intro w' x1; (try dsimp only at x1); go_simp <;> rfl) yS ?_
                    try simp only [List.getElem_toArray, List.getElem_cons_succ, List.getElem_cons_zero, Act.put, List.setIfInBounds_toArray, List.set_cons_zero, List.set_cons_succ]
                    refine wpAnyL_take 15 rfl (by kernel_rfl) (by kernel_rfl) (by kernel_rfl) (by kernel_rfl) (fun _ _ _ h => h) (by kernel_rfl) (by intro w' x1; (try dsimp only at x1); go_simp <;> rfl) yS ?_
                    try simp only [List.getElem_toArray, List.getElem_cons_succ, List.getElem_cons_zero, Act.put, List.setIfInBounds_toArray, List.set_cons_zero, List.set_cons_succ]
                    refine wpAnyL_take 16 rfl (by kernel_rfl) (by kernel_rfl) (by kernel_rfl) (by kernel_rfl) (fun _ _ _ h => h) (by kernel_rfl) (by intro w' x1; (try dsimp only at x1); go_simp <;> rfl) yS ?_
                    try simp only [List.getElem_toArray, List.getElem_cons_succ, List.getElem_cons_zero, Act.put, List.setIfInBounds_toArray, List.set_cons_zero, List.set_cons_succ]
                    refine wpAnyL_take 18 rfl (by kernel_rfl) (by kernel_rfl) (by kernel_rfl) (by kernel_rfl) (fun _ _ _ h => h) (by kernel_rfl) (by intro w' x1; (try dsimp only at x1); go_simp <;> rfl) yS ?_
                    try simp only [List.getElem_toArray, List.getElem_cons_succ, List.getElem_cons_zero, Act.put, List.setIfInBounds_toArray, List.set_cons_zero, List.set_cons_succ]
                    refine wpAnyL_take 19 rfl (by kernel_rfl) (by kernel_rfl) (by kernel_rfl) (by kernel_rfl) (fun _ _ _ h => h) (by kernel_rfl) (by intro w' x1; (try dsimp only at x1); go_simp <;> rfl) yS ?_
                    try simp only [List.getElem_toArray, List.getElem_cons_succ, List.getElem_cons_zero, Act.put, List.setIfInBounds_toArray, List.set_cons_zero, List.set_cons_succ]
                    refine wpAnyL_take 20 rfl (by kernel_rfl) (by kernel_rfl) (by kernel_rfl) (by kernel_rfl) (fun _ _ _ h => h) (by kernel_rfl) (by intro w' x1; (try dsimp only at x1); go_simp <;> rfl) yS ?_
                    try simp only [List.getElem_toArray, List.getElem_cons_succ, List.getElem_cons_zero, Act.put, List.setIfInBounds_toArray, List.set_cons_zero, List.set_cons_succ]
                    refine wpAnyL_take 21 rfl (by kernel_rfl) (by kernel_rfl) (by kernel_rfl) (by kernel_rfl) (fun _ _ _ h => h) (by kernel_rfl) (by intro w' x1; (try dsimp only at x1); go_simp <;> rfl) yS ?_
                    try simp only [List.getElem_toArray, List.getElem_cons_succ, List.getElem_cons_zero, Act.put, List.setIfInBounds_toArray, List.set_cons_zero, List.set_cons_succ]
                    refine wpAnyL_take 22 rfl (by kernel_rfl) (by kernel_rfl) (by kernel_rfl) (by kernel_rfl) (fun _ _ _ h => h) (by kernel_rfl) (by intro w' x1; (try dsimp only at x1); go_simp <;> rfl) yS ?_
                    try simp only [List.getElem_toArray, List.getElem_cons_succ, List.getElem_cons_zero, Act.put, List.setIfInBounds_toArray, List.set_cons_zero, List.set_cons_succ]
                    refine wpAnyL_take 23 rfl (by kernel_rfl) (by kernel_rfl) (by kernel_rfl) (by kernel_rfl) (fun _ _ _ h => h) (by kernel_rfl) (by intro w' x1; (try dsimp only at x1); go_simp <;> rfl) yS ?_
                    try simp only [List.getElem_toArray, List.getElem_cons_succ, List.getElem_cons_zero, Act.put, List.setIfInBounds_toArray, List.set_cons_zero, List.set_cons_succ]
                    refine wpAnyL_one 17 (by kernel_rfl) rfl (by kernel_rfl) ?_
                    intro K' hK'
                    go_simp
                    go_at_call 10
                    refine kL9.mono ?_
                    rintro e w9 ⟨rfl, b9⟩
                    have yT : (fun w' : World => w'.cell? ⟨g, p * 2, none⟩ = some (.int .u64 (m : Int))) w9 := hl9 _ b9
                    refine hK'.out _ _ (.inr yT) ?_
                    clear hK' K'
                    try simp only [List.getElem_toArray, List.getElem_cons_succ, List.getElem_cons_zero, Act.put, List.setIfInBounds_toArray, List.set_cons_zero, List.set_cons_succ]
                    refine wpAnyL_take 24 rfl (by kernel_rfl) (by kernel_rfl) (by kernel_rfl) (by kernel_rfl) (fun _ _ _ h => h) (by kernel_rfl) (by intro w' x1; (try dsimp only at x1); go_simp <;> rfl) yT ?_
                    try simp only [List.getElem_toArray, List.getElem_cons_succ, List.getElem_cons_zero, Act.put, List.setIfInBounds_toArray, List.set_cons_zero, List.set_cons_succ]
                    refine wpAnyL_take 25 rfl (by kernel_rfl) (by kernel_rfl) (by kernel_rfl) (by kernel_rfl) (fun _ _ _ h => h) (by kernel_rfl) (by intro w' x1; (try dsimp only at x1); go_simp <;> rfl) yT ?_
                    try simp only [List.getElem_toArray, List.getElem_cons_succ, List.getElem_cons_zero, Act.put, List.setIfInBounds_toArray, List.set_cons_zero, List.set_cons_succ]
                    refine wpAnyL_take 26 rfl (by kernel_rfl) (by kernel_rfl) (by kernel_rfl) (by kernel_rfl) (fun _ _ _ h => h) (by kernel_rfl) (by intro w' x1; (try dsimp only at x1); go_simp <;> rfl) yT ?_
                    try simp only [List.getElem_toArray, List.getElem_cons_succ, List.getElem_cons_zero, Act.put, List.setIfInBounds_toArray, List.set_cons_zero, List.set_cons_succ]
                    refine wpAnyL_done (by kernel_rfl) (NoPanic.normal ?_) _
                    have hf := hfin8 _ b9
                    clear hfin8 kL9
                    go_wp2
                    go_roundg (G - 1)
                    case measure => have := hG'.out; omega
                    case rel => exact ⟨i + 1, m, by have := hG'.out; omega, by go_num, rfl, hf.out⟩
                  · have hmi : ¬ (m : Int) < (N : Int) := by omega
                    clear kNo
                    obtain ⟨w8, hw8⟩ : ∃ w8, w8 = wr := ⟨_, rfl⟩
                    have b8 : Below w5.heap.size w5 w8 := by rw [hw8]; exact bx
                    rw [← hw8]
                    clear hw8 bx
                    have kL8 : ∀ W', Below w8.heap.size w8 W' → Calls Tryz.prog 10 #[.pointer (some ⟨pq, 0, none⟩)] W' fun e w' => e = .returned (.int .u64 (m : Int)) ∧ Below w8.heap.size w8 w' := fun W' hb => (kL W' (b8.trans (hb.mono b8.size))).mono fun e w' h => ⟨h.1, hb.trans (h.2.mono hb.size)⟩
                    have hd8 : Below w8.heap.size w8 w8.drew := (Below.refl _ _).drew
                    have kL9 := kL8 _ hd8
                    have hfin8 : ∀ W', Below w8.heap.size w8 W' → Hid (SafeI w l (.pointer (some ⟨dq, 0, none⟩)) (i + 1) m (.pointer (some ⟨pq, 0, none⟩)) (.slice (some ⟨g, 0, none⟩) m m) W') := fun W' hb => hfin W' (b8.trans (hb.mono b8.size))
                    clear hfin kL kG kL8 hcel
                    have y8 := hlst _ (b8.trans (hd8.mono b8.size))
                    have hl9 : ∀ W', Below w8.heap.size w8 W' → W'.cell? ⟨g, p * 2, none⟩ = some (.int .u64 (m : Int)) := fun W' hb => hlst _ (b8.trans (hb.mono b8.size))
                    clear hlst
                    go_wp2
                    refine wp_region_L (fun w' => w'.cell? ⟨g, p * 2, none⟩ = some (.int .u64 (m : Int))) [] (by kernel_rfl) ?_
                    have yS : (fun w' : World => w'.cell? ⟨g, p * 2, none⟩ = some (.int .u64 (m : Int))) w8.drew := y8
                    refine wpAnyL_take 0 rfl (by kernel_rfl) (by kernel_rfl) (by kernel_rfl) (by kernel_rfl) (fun _ _ _ h => h) (by kernel_rfl) (by intro w' x1; (try dsimp only at x1); go_simp <;> rfl) yS ?_
                    try simp only [List.getElem_toArray, List.getElem_cons_succ, List.getElem_cons_zero, Act.put, List.setIfInBounds_toArray, List.set_cons_zero, List.set_cons_succ]
                    refine wpAnyL_take 1 rfl (by kernel_rfl) (by kernel_rfl) (by kernel_rfl) (by kernel_rfl) (fun _ _ _ h => h) (by kernel_rfl) (by intro w' x1; (try dsimp only at x1); go_simp <;> rfl) yS ?_
                    try simp only [List.getElem_toArray, List.getElem_cons_succ, List.getElem_cons_zero, Act.put, List.setIfInBounds_toArray, List.set_cons_zero, List.set_cons_succ]
                    refine wpAnyL_take 2 rfl (by kernel_rfl) (by kernel_rfl) (by kernel_rfl) (by kernel_rfl) (fun _ _ _ h => h) (by kernel_rfl) (by intro w' x1; (try dsimp only at x1); go_simp <;> rfl) yS ?_
                    try simp only [List.getElem_toArray, List.getElem_cons_succ, List.getElem_cons_zero, Act.put, List.setIfInBounds_toArray, List.set_cons_zero, List.set_cons_succ]
                    refine wpAnyL_take 3 rfl (by kernel_rfl) (by kernel_rfl) (by kernel_rfl) (by kernel_rfl) (fun _ _ _ h => h) (by kernel_rfl) (by intro w' x1; (try dsimp only at x1); go_simp <;> rfl) yS ?_
                    try simp only [List.getElem_toArray, List.getElem_cons_succ, List.getElem_cons_zero, Act.put, List.setIfInBounds_toArray, List.set_cons_zero, List.set_cons_succ]
                    refine wpAnyL_take 4 rfl (by kernel_rfl) (by kernel_rfl) (by kernel_rfl) (by kernel_rfl) (fun _ _ _ h => h) (by kernel_rfl) (by intro w' x1; (try dsimp only at x1); go_simp <;> rfl) yS ?_
                    try simp only [List.getElem_toArray, List.getElem_cons_succ, List.getElem_cons_zero, Act.put, List.setIfInBounds_toArray, List.set_cons_zero, List.set_cons_succ]
                    refine wpAnyL_take 5 rfl (by kernel_rfl) (by kernel_rfl) (by kernel_rfl) (by kernel_rfl) (fun _ _ _ h => h) (by kernel_rfl) (by intro w' x1; (try dsimp only at x1); go_simp <;> rfl) yS ?_
                    try simp only [List.getElem_toArray, List.getElem_cons_succ, List.getElem_cons_zero, Act.put, List.setIfInBounds_toArray, List.set_cons_zero, List.set_cons_succ]
                    refine wpAnyL_take 6 rfl (by kernel_rfl) (by kernel_rfl) (by kernel_rfl) (by kernel_rfl) (fun _ _ _ h => h) (by kernel_rfl) (by intro w' x1; (try dsimp only at x1); go_simp <;> rfl) yS ?_
                    try simp only [List.getElem_toArray, List.getElem_cons_succ, List.getElem_cons_zero, Act.put, List.setIfInBounds_toArray, List.set_cons_zero, List.set_cons_succ]
                    refine wpAnyL_skip 7 rfl (by kernel_rfl) (by kernel_rfl) (by kernel_rfl) (by kernel_rfl) (fun _ _ _ h => h) (by kernel_rfl) yS ?_
                    try simp only [List.getElem_toArray, List.getElem_cons_succ, List.getElem_cons_zero, Act.put, List.setIfInBounds_toArray, List.set_cons_zero, List.set_cons_succ]
                    refine wpAnyL_skip 8 rfl (by kernel_rfl) (by kernel_rfl) (by kernel_rfl) (by kernel_rfl) (fun _ _ _ h => h) (by kernel_rfl) yS ?_
                    try simp only [List.getElem_toArray, List.getElem_cons_succ, List.getElem_cons_zero, Act.put, List.setIfInBounds_toArray, List.set_cons_zero, List.set_cons_succ]
                    refine wpAnyL_skip 9 rfl (by kernel_rfl) (by kernel_rfl) (by kernel_rfl) (by kernel_rfl) (fun _ _ _ h => h) (by kernel_rfl) yS ?_
                    try simp only [List.getElem_toArray, List.getElem_cons_succ, List.getElem_cons_zero, Act.put, List.setIfInBounds_toArray, List.set_cons_zero, List.set_cons_succ]
                    refine wpAnyL_take 10 rfl (by kernel_rfl) (by kernel_rfl) (by kernel_rfl) (by kernel_rfl) (fun _ _ _ h => h) (by kernel_rfl) (by intro w' x1; (try dsimp only at x1); go_simp <;> rfl) yS ?_
                    try simp only [List.getElem_toArray, List.getElem_cons_succ, List.getElem_cons_zero, Act.put, List.setIfInBounds_toArray, List.set_cons_zero, List.set_cons_succ]
                    refine wpAnyL_take 11 rfl (by kernel_rfl) (by kernel_rfl) (by kernel_rfl) (by kernel_rfl) (fun _ _ _ h => h) (by kernel_rfl) (by intro w' x1; (try dsimp only at x1); go_simp <;> rfl) yS ?_
                    try simp only [List.getElem_toArray, List.getElem_cons_succ, List.getElem_cons_zero, Act.put, List.setIfInBounds_toArray, List.set_cons_zero, List.set_cons_succ]
                    refine wpAnyL_take 12 rfl (by kernel_rfl) (by kernel_rfl) (by kernel_rfl) (by kernel_rfl) (fun _ _ _ h => h) (by kernel_rfl) (by intro w' x1; (try dsimp only at x1); go_simp <;> rfl) yS ?_
                    try simp only [List.getElem_toArray, List.getElem_cons_succ, List.getElem_cons_zero, Act.put, List.setIfInBounds_toArray, List.set_cons_zero, List.set_cons_succ]
                    refine wpAnyL_take 13 rfl (by kernel_rfl) (by kernel_rfl) (by kernel_rfl) (by kernel_rfl) (fun _ _ _ h => h) (by kernel_rfl) (by intro w' x1; (try dsimp only at x1); go_simp <;> rfl) yS ?_
                    try simp only [List.getElem_toArray, List.getElem_cons_succ, List.getElem_cons_zero, Act.put, List.setIfInBounds_toArray, List.set_cons_zero, List.set_cons_succ]
                    refine wpAnyL_take 14 rfl (by kernel_rfl) (by kernel_rfl) (by kernel_rfl) (by kernel_rfl) (fun _ _ _ h => h) (by kernel_rfl) (by intro w' x1; (try dsimp only at x1); go_simp <;> rfl) yS ?_
                    try simp only [List.getElem_toArray, List.getElem_cons_succ, List.getElem_cons_zero, Act.put, List.setIfInBounds_toArray, List.set_cons_zero, List.set_cons_succ]
                    refine wpAnyL_take 15 rfl (by kernel_rfl) (by kernel_rfl) (by kernel_rfl) (by kernel_rfl) (fun _ _ _ h => h) (by kernel_rfl) (by intro w' x1; (try dsimp only at x1); go_simp <;> rfl) yS ?_
                    try simp only [List.getElem_toArray, List.getElem_cons_succ, List.getElem_cons_zero, Act.put, List.setIfInBounds_toArray, List.set_cons_zero, List.set_cons_succ]
                    refine wpAnyL_take 16 rfl (by kernel_rfl) (by kernel_rfl) (by kernel_rfl) (by kernel_rfl) (fun _ _ _ h => h) (by kernel_rfl) (by intro w' x1; (try dsimp only at x1); go_simp <;> rfl) yS ?_
                    try simp only [List.getElem_toArray, List.getElem_cons_succ, List.getElem_cons_zero, Act.put, List.setIfInBounds_toArray, List.set_cons_zero, List.set_cons_succ]
                    refine wpAnyL_take 18 rfl (by kernel_rfl) (by kernel_rfl) (by kernel_rfl) (by kernel_rfl) (fun _ _ _ h => h) (by kernel_rfl) (by intro w' x1; (try dsimp only at x1); go_simp <;> rfl) yS ?_
                    try simp only [List.getElem_toArray, List.getElem_cons_succ, List.getElem_cons_zero, Act.put, List.setIfInBounds_toArray, List.set_cons_zero, List.set_cons_succ]
                    refine wpAnyL_take 19 rfl (by kernel_rfl) (by kernel_rfl) (by kernel_rfl) (by kernel_rfl) (fun _ _ _ h => h) (by kernel_rfl) (by intro w' x1; (try dsimp only at x1); go_simp <;> rfl) yS ?_
                    try simp only [List.getElem_toArray, List.getElem_cons_succ, List.getElem_cons_zero, Act.put, List.setIfInBounds_toArray, List.set_cons_zero, List.set_cons_succ]
                    refine wpAnyL_take 20 rfl (by kernel_rfl) (by kernel_rfl) (by kernel_rfl) (by kernel_rfl) (fun _ _ _ h => h) (by kernel_rfl) (by intro w' x1; (try dsimp only at x1); go_simp <;> rfl) yS ?_
                    try simp only [List.getElem_toArray, List.getElem_cons_succ, List.getElem_cons_zero, Act.put, List.setIfInBounds_toArray, List.set_cons_zero, List.set_cons_succ]
                    refine wpAnyL_take 21 rfl (by kernel_rfl) (by kernel_rfl) (by kernel_rfl) (by kernel_rfl) (fun _ _ _ h => h) (by kernel_rfl) (by intro w' x1; (try dsimp only at x1); go_simp <;> rfl) yS ?_
                    try simp only [List.getElem_toArray, List.getElem_cons_succ, List.getElem_cons_zero, Act.put, List.setIfInBounds_toArray, List.set_cons_zero, List.set_cons_succ]
                    refine wpAnyL_take 22 rfl (by kernel_rfl) (by kernel_rfl) (by kernel_rfl) (by kernel_rfl) (fun _ _ _ h => h) (by kernel_rfl) (by intro w' x1; (try dsimp only at x1); go_simp <;> rfl) yS ?_
                    try simp only [List.getElem_toArray, List.getElem_cons_succ, List.getElem_cons_zero, Act.put, List.setIfInBounds_toArray, List.set_cons_zero, List.set_cons_succ]
                    refine wpAnyL_take 23 rfl (by kernel_rfl) (by kernel_rfl) (by kernel_rfl) (by kernel_rfl) (fun _ _ _ h => h) (by kernel_rfl) (by intro w' x1; (try dsimp only at x1); go_simp <;> rfl) yS ?_
                    try simp only [List.getElem_toArray, List.getElem_cons_succ, List.getElem_cons_zero, Act.put, List.setIfInBounds_toArray, List.set_cons_zero, List.set_cons_succ]
                    refine wpAnyL_one 17 (by kernel_rfl) rfl (by kernel_rfl) ?_
                    intro K' hK'
                    go_simp
                    go_at_call 10
                    refine kL9.mono ?_
                    rintro e w9 ⟨rfl, b9⟩
                    have yT : (fun w' : World => w'.cell? ⟨g, p * 2, none⟩ = some (.int .u64 (m : Int))) w9 := hl9 _ b9
                    refine hK'.out _ _ (.inr yT) ?_
                    clear hK' K'
                    try simp only [List.getElem_toArray, List.getElem_cons_succ, List.getElem_cons_zero, Act.put, List.setIfInBounds_toArray, List.set_cons_zero, List.set_cons_succ]
                    refine wpAnyL_take 24 rfl (by kernel_rfl) (by kernel_rfl) (by kernel_rfl) (by kernel_rfl) (fun _ _ _ h => h) (by kernel_rfl) (by intro w' x1; (try dsimp only at x1); go_simp <;> rfl) yT ?_
                    try simp only [List.getElem_toArray, List.getElem_cons_succ, List.getElem_cons_zero, Act.put, List.setIfInBounds_toArray, List.set_cons_zero, List.set_cons_succ]
                    refine wpAnyL_take 25 rfl (by kernel_rfl) (by kernel_rfl) (by kernel_rfl) (by kernel_rfl) (fun _ _ _ h => h) (by kernel_rfl) (by intro w' x1; (try dsimp only at x1); go_simp <;> rfl) yT ?_
                    try simp only [List.getElem_toArray, List.getElem_cons_succ, List.getElem_cons_zero, Act.put, List.setIfInBounds_toArray, List.set_cons_zero, List.set_cons_succ]
                    refine wpAnyL_take 26 rfl (by kernel_rfl) (by kernel_rfl) (by kernel_rfl) (by kernel_rfl) (fun _ _ _ h => h) (by kernel_rfl) (by intro w' x1; (try dsimp only at x1); go_simp <;> rfl) yT ?_
                    try simp only [List.getElem_toArray, List.getElem_cons_succ, List.getElem_cons_zero, Act.put, List.setIfInBounds_toArray, List.set_cons_zero, List.set_cons_succ]
                    refine wpAnyL_done (by kernel_rfl) (NoPanic.normal ?_) _
                    have hf := hfin8 _ b9
                    clear hfin8 kL9
                    go_wp2
                    go_roundg (G - 1)
                    case measure => have := hG'.out; omega
                    case rel => exact ⟨i + 1, m, by have := hG'.out; omega, by go_num, rfl, hf.out⟩
          · have hmon : totB (l.take i) + 30 * i ≤ totB (l.take (i + 1)) + 30 * (i + 1) := by omega
            obtain ⟨Wa, hWa⟩ : ∃ Wa, Hid (Wa = wr.alloc (.cells #[.int .i64 xw, .int .u64 (x.idx : Int), .bool x.step, .slice ab x.b.length cb, .slice an x.cuts.length cn] 35)) := ⟨_, rfl⟩
            rw [← hWa.out] at hLa hbk hsa hxa
            have kL : ∀ W', Below Wa.heap.size Wa W' → Calls Tryz.prog 10 #[.pointer (some ⟨sq, 0, none⟩)] W' fun e w' => e = .returned (.int .u64 ((recsOf sg).length : Int)) ∧ Below Wa.heap.size Wa w' ∧ Below W'.heap.size W' w' := fun W' hb => by
              have := lv_last hT (hLa.below hb) hW
              rw [hlast] at this
              exact this.mono fun e w' h => ⟨h.1, hb.trans (h.2.mono hb.size), h.2⟩
            have hc3 : ∀ W', Below Wa.heap.size Wa W' → W'.cell? ⟨wr.heap.size, 3, none⟩ = some (.slice ab x.b.length cb) := fun W' hb => by
              have e := (hb.block wr.heap.size (by omega)).trans hbk
              rw [cells_of_block e]
              rfl
            have hsH : Hid (Wa.heap.size = wr.heap.size + 1) := hsa
            clear hsa
            have hd1 : Below Wa.heap.size Wa Wa.drew := (Below.refl _ _).drew
            have z0 := hc3 _ hd1
            have z1 := hc3 _ (hd1.alloc (Nat.le_refl _) (.cells #[.int .u64 0, .slice none 0 0] 44))
            have hwr : IntKind.u64.wrap (((recsOf sg).length : Int) + 1) = ((recsOf sg).length : Int) + 1 := by
              rw [show ((recsOf sg).length : Int) + 1 = (((recsOf sg).length + 1 : Nat) : Int) by omega]
              exact IntWalk.u64_in _ (by omega)
            obtain ⟨N, hN'⟩ : ∃ N, Hid (N = (recsOf sg).length) := ⟨_, rfl⟩
            have hE1 : ∀ W4 rb, BoxIn Wa W4 rb (.int .u64 ((N : Int) + 1)) (.slice ab x.b.length cb) → Hid (True) := fun _ _ _ => trivial
            rw [← hN'.out] at kL hwr hcap1 hcnt hsf hlast ⊢
            clear hE1
            go_wp2
            rw [← hWa.out]
            clear hWa
            go_region_held3 (fun w' => w'.cell? ⟨wr.heap.size, 3, none⟩ = some (.slice ab x.b.length cb))
              (first | exact z0 | exact z1 | exact hc3 _ b4 | exact hc3 _ (b4.alloc b4.size _) | exact hc3 _ ((b4.setCell (p := ⟨Wa.heap.size, 0, none⟩) (Nat.le_refl _) _).setCell (p := ⟨Wa.heap.size, 1, none⟩) (Nat.le_refl _) _) | go_keep)
              ((go_at_call 10; refine (kL _ (by first | exact hd1 | exact hd1.alloc (Nat.le_refl _) _)).mono ?_; rintro e w4 ⟨rfl, b4, c4⟩; first | (have k4 : w4.heap[Wa.heap.size]? = some recBox := (c4.block Wa.heap.size (by simp)).trans (heap_alloc_new Wa.drew _); obtain ⟨y0, y1, y2, y3⟩ := box_facts k4) | skip))
            all_goals
              refine gen_world ?_
              intro W4 hW4
              first
                | (obtain ⟨rb, hrb⟩ : ∃ rb, rb = w4.heap.size := ⟨_, rfl⟩
                   have hbx : BoxIn Wa W4 rb (.int .u64 ((N : Int) + 1)) (.slice ab x.b.length cb) := by rw [hW4, hrb]; exact boxC b4 _ _
                   rw [← hrb])
                | (obtain ⟨rb, hrb⟩ : ∃ rb, rb = Wa.heap.size := ⟨_, rfl⟩
                   have hbx : BoxIn Wa W4 rb (.int .u64 ((N : Int) + 1)) (.slice ab x.b.length cb) := by rw [hW4, hrb]; exact boxS k4 b4 (Nat.le_refl _) _ _
                   rw [← hrb])
              clear hrb hW4
              (try clear y0 y1 y2 y3)
              (try clear k4)
              clear b4 c4 kL z0 z1 hc3
              obtain ⟨hx4, hrl, hb4⟩ := hbx
              have hL4 := hLa.below hb4
              have f0 : W4.cell? ⟨rb, 0, none⟩ = some (.int .u64 ((N : Int) + 1)) := by rw [cells_of_block hx4]; rfl
              have f1 : W4.cell? ⟨rb, 1, none⟩ = some (.slice ab x.b.length cb) := by rw [cells_of_block hx4]; rfl
              by_cases hlen : 4096 < x.b.length
              · have k5 := lv_long hT hL4 hW (N + 1) ab x.b.length cb (by omega) hlen
                rw [Int.natCast_add] at k5
                have hfin : ∀ w', Lv w w' (.pointer (some ⟨sq, 0, none⟩)) (.pointer (some ⟨dq, 0, none⟩)) (.slice (some ⟨g, 0, none⟩) (recsOf sg).length cap) sg fs (recsOf sg) → Hid (SafeI w l (.pointer (some ⟨dq, 0, none⟩)) (i + 1) sf (.pointer (some ⟨sq, 0, none⟩)) (.slice (some ⟨g, 0, none⟩) N cap) w') := fun w' h => by
                  rw [hN'.out]
                  exact ⟨sg, _, h, hGs.mono (Nat.le_refl _) hmon (by omega)⟩
                clear hL4 hLa hGs hW hF hB hN hx4 hb4
                go_wp2_with fail
                refine k5.mono ?_
                rintro e w5 ⟨rfl, hL5⟩
                have hf := hfin w5 hL5
                clear k5 hfin hL5 f0 f1
                go_wp2
                go_roundg (gk - 1)
                case measure => omega
                case rel => exact ⟨i + 1, sf, by omega, by go_num, rfl, hf.out⟩
              · have hro : okRec ⟨N + 1, x.b⟩ := ⟨by show 0 < N + 1; omega, by show N + 1 < _; omega, by show x.b.length ≤ _; omega, hxk.2⟩
                have hrl2 := rec_over hro
                have hrb : (recB ⟨N + 1, x.b⟩).length ≤ x.b.length + 30 := hrl2
                obtain ⟨r1, r2, fs2, r3, r4⟩ := hGs.append ⟨N + 1, x.b⟩ hro (by omega) (by rw [← hN'.out]) (by omega)
                have hBw : @Bs keepAll W4.heap.size W4 (.slice ab x.b.length cb) x.b := (hB.below hL4.bel).mono hL4.bel.size
                have k5 := lv_append2 hT hLa hb4 hW hF ⟨N + 1, x.b⟩ hro hBw (by show N + 1 = _; rw [← hlast]) r1 r3
                have k6 : Calls Tryz.prog 20 #[.pointer (some ⟨sq, 0, none⟩), .agg #[.int .u64 ((N : Int) + 1), .slice ab x.b.length cb]] W4 fun e w' => e = .returned (.int .i64 0) ∧ w'.cell? ⟨rb, 0, none⟩ = some (.int .u64 ((N : Int) + 1)) ∧ w'.cell? ⟨rb, 1, none⟩ = some (.slice ab x.b.length cb) ∧ (∀ ty, ∃ v' w5, (Builtin.append_ #[50, 50] ty #[.slice (some ⟨g, 0, none⟩) N cap, .slice (some ⟨w'.heap.size, 0, none⟩) 1 1]).run Tryz.prog (w'.alloc (.cells #[.int .u64 ((N : Int) + 1), .slice ab x.b.length cb] 44)) = .ok v' w5 ∧ Hid (SafeI w l (.pointer (some ⟨dq, 0, none⟩)) (i + 1) sf (.pointer (some ⟨sq, 0, none⟩)) v' w5)) := by
                  refine k5.mono ?_
                  rintro e w' ⟨rfl, g1, g2⟩
                  have e4 := (g2 rb hrl (Array.getElem?_eq_some_iff.1 hx4).1).trans hx4
                  refine ⟨rfl, by rw [cells_of_block e4]; rfl, by rw [cells_of_block e4]; rfl, fun ty => ?_⟩
                  obtain ⟨v', w5, p1, p2⟩ := g1.push ⟨N + 1, x.b⟩ ty (by rw [← hN'.out]; omega) (hB.below g1.bel)
                  rw [← hN'.out] at p1
                  rw [← r2] at p2
                  exact ⟨v', w5, p1, _, _, p2, r4.mono (Nat.le_refl _) (by omega) (Nat.le_refl _)⟩
                clear k5 hL4 hLa hGs hW hF hB hN hx4 hb4 r1 r2 r3 r4 hBw hro hrl2 hrb
                go_wp2_with fail
                refine k6.mono ?_
                rintro e w5 ⟨rfl, f3, f4, hap⟩
                clear k6 f0 f1
                go_wp2_with (at_builtin; refine wp_by rfl _ _ _ rfl _ _ rfl rfl hap ?_)
                intro v6 w6 hf
                clear hap f3 f4
                go_wp2
                go_roundg (gk - 1)
                case measure => omega
                case rel => exact ⟨i + 1, sf, by omega, by go_num, rfl, hf.out⟩
    · have hlti : ¬ (i : Int) < (l.length : Int) := by omega
      obtain ⟨sg, fs, hLv, -⟩ := hSt
      have ka := once_of wr (hT.new hLv.bel)
      have hbb := hLv.bel
      clear hLv hat hV0
      go_wp2_with fail
      refine ka.mono ?_
      rintro e w9 ⟨rfl, b9⟩
      clear ka
      go_wp2
      go_ret
      exact ⟨rfl, hbb.trans (b9.mono hbb.size)⟩
end Go.Proofs.YtoipjmjhplkibaaGreatDoor


import Derived.Test.YtjkjekhbfjjnjaaHb10
import Derived.Deep.Upon
import Derived.Laws.CopyRow
/- The contract of slices.Delete of one message, and of Drop. -/
namespace Go.Proofs.Ytjkjekhbfjjnjaa
open Go.RowKit Go.Maps
set_option maxRecDepth 100000
set_option linter.unusedSimpArgs false
set_option linter.unusedVariables false

theorem zeroMsg (w : World) : (zeroValue 62).run Try.prog w = .ok (.agg #[.int .i64 0, .int .i64 0, .string ⟨#[]⟩]) w := by kernel_rfl
/-- What clear lays there. -/
def zs3 (n : Nat) : List Value := (Builtin.zeroCells #[.int .i64 0, .int .i64 0, .string ⟨#[]⟩] n).toList
theorem zs3_length (n : Nat) : (zs3 n).length = n * 3 := by simp [zs3, Builtin.zeroCells]
theorem zs3_one (n : Nat) : ∀ v ∈ zs3 n, v.oneCell' = true := by
  intro v hv
  simp only [zs3, Builtin.zeroCells, Array.toList_map, Array.toList_range, List.mem_map, List.mem_range] at hv
  obtain ⟨i, hi, rfl⟩ := hv
  have h2 : i % 3 = 0 ∨ i % 3 = 1 ∨ i % 3 = 2 := by omega
  rcases h2 with h | h | h
  · simp [h]; rfl
  · simp [h]; rfl
  · simp [h]; rfl

/-- append within the room of a row. -/
theorem run_append_row (w : World) (ts t ty : TypeId) (i0 : TypeInfo) (ht : Try.prog.underlying ts = some (.slice t)) (hi : Try.prog.info? t = some i0) (g : Nat) (cur : Array Value) (hbk : w.heap[g]? = some (.cells cur t (0, 0))) (i cap : Nat) (a : Addr) (m c : Nat) (news : List Value)
    (hl : news.length = m * i0.size) (hnews : ∀ j u, news[j]? = some u → w.cell? (a.add j) = some u) (h1 : ∀ u ∈ news, u.oneCell' = true) (hroom : i + m ≤ cap) (hcs : i * i0.size + news.length ≤ cur.size) :
    (Builtin.append_ #[ts, ts] ty #[.slice (some ⟨g, 0, none⟩) i cap, .slice (some a) m c]).run Try.prog w = .ok (.slice (some ⟨g, 0, none⟩) (i + m) cap) (w.setRow g (cur.toList.take (i * i0.size) ++ news ++ cur.toList.drop (i * i0.size + news.length)).toArray) := by
  have hfc := run_firstCells_some (P := Try.prog) w i0.size m a m c news hl hnews
  have hst := run_storeCells_at (P := Try.prog) g (i * i0.size) t news 0 cur w hbk (by simpa using hcs) h1
  simp only [Nat.add_zero] at hst
  simp [Builtin.append_, run_underlying ht, sizeOf, typeInfo, hi, Builtin.lenOf, hroom, hfc, Addr.add_lit, hst]

/-- clear of a row's end. -/
theorem run_clear_row (w : World) (g : Nat) (cur : Array Value) (hbk : w.heap[g]? = some (.cells cur 62 (0, 0))) (o n : Nat) (hn : 0 < n) (hcs : o + n * 3 ≤ cur.size) (ty : TypeId) (c : Nat) :
    (Builtin.clear_ #[46] ty #[.slice (some ⟨g, o, none⟩) n c]).run Try.prog w = .ok (.tuple #[]) (w.setRow g (cur.toList.take o ++ zs3 n ++ cur.toList.drop (o + n * 3)).toArray) := by
  have hst := run_storeCells_at (P := Try.prog) g o 62 (zs3 n) 0 cur w hbk (by rw [zs3_length]; omega) (zs3_one _)
  rw [zs3_length] at hst
  simp only [Nat.add_zero] at hst
  obtain ⟨m, rfl⟩ : ∃ m, n = m + 1 := ⟨n - 1, by omega⟩
  obtain ⟨R, hR⟩ : ∃ R, R = (cur.toList.take o ++ zs3 (m + 1) ++ cur.toList.drop (o + (m + 1) * 3)).toArray := ⟨_, rfl⟩
  rw [← hR] at hst ⊢
  clear hR
  unfold zs3 at hst
  have hzc : (Value.agg #[.int .i64 0, .int .i64 0, .string ⟨#[]⟩]).cells = #[.int .i64 0, .int .i64 0, .string ⟨#[]⟩] := rfl
  simp [Builtin.clear_, run_underlying Try.underlying46, zeroMsg, hzc, hst]

/-- What Delete leaves. -/
def DelT (w : World) (v : Value) (xs : List Msg) (e : Ending) (w' : World) : Prop :=
  ∃ v', e = .returned v' ∧ Rk msgE w' 62 v' xs ∧ w.grownBy w' v.ownBlock ∧ v'.ownBlock = v.ownBlock

theorem erase_flat (xs : List Msg) (i : Nat) : xs.eraseIdx i = xs.take i ++ xs.drop (i + 1) := by rw [List.eraseIdx_eq_take_drop_succ]

set_option maxHeartbeats 4000000 in
theorem delete_one (w : World) (v : Value) (xs : List Msg) (i : Nat) (h : Rk msgE w 62 v xs) (hi : i < xs.length) (hsm : xs.length ≤ 1000000) :
    Calls Try.prog 27 #[v, .int .i64 (i : Int), .int .i64 ((i : Int) + 1)] w (DelT w v (xs.eraseIdx i)) := by
  obtain ⟨i0, hi0, hz0, hz1, hz2⟩ := info_parts infoMsg
  obtain ⟨g, cap, cur, rfl, hle, hm, hbk, hcs, ht, hcell, hf⟩ := h.cells (by omega)
  obtain ⟨n, hn⟩ : ∃ n, Hid (n + 1 = xs.length) := ⟨xs.length - 1, by show _ = _; omega⟩
  have hgl := (Array.getElem?_eq_some_iff.1 hbk).1
  have hcs3 : cur.size = cap * 3 := hcs
  -- the row behind the append
  obtain ⟨NEW, hNEW⟩ : ∃ N : Array Value, Hid (N = (cur.toList.take (i * 3) ++ msgE.flat (xs.drop (i + 1)) ++ cur.toList.drop (i * 3 + (msgE.flat (xs.drop (i + 1))).length)).toArray) := ⟨_, rfl⟩
  have hdl : (msgE.flat (xs.drop (i + 1))).length = (n - i) * 3 := by rw [El.flat_length, List.length_drop, ← hn.out]; show (n + 1 - (i + 1)) * 3 = _; congr 1; omega
  have hin : i ≤ n := by have := hn.out; omega
  have hnc : n + 1 ≤ cap := by have := hn.out; omega
  have hNs : NEW.size = cap * 3 := by
    rw [hNEW.out]
    simp only [List.size_toArray, List.length_append, List.length_take, List.length_drop, Array.length_toList, hdl]
    rw [hcs3]
    have : (i + (n - i)) * 3 ≤ cap * 3 := Nat.mul_le_mul_right _ (by omega)
    rw [Nat.add_mul] at this
    have : i * 3 ≤ cap * 3 := Nat.mul_le_mul_right _ (by omega)
    omega
  have hNt : NEW.toList.take (n * 3) = msgE.flat (xs.eraseIdx i) := by
    rw [erase_flat, El.flat_append, ← El.flat_take, ← ht, hNEW.out]
    show List.take (n * 3) (_ ++ _ ++ _) = List.take (i * 3) (List.take (xs.length * 3) _) ++ _
    rw [List.take_take, ← hn.out, Nat.min_eq_left (by omega)]
    have hl1 : (cur.toList.take (i * 3)).length = i * 3 := by rw [List.length_take, Array.length_toList, hcs3]; omega
    rw [List.take_append_of_le_length (by rw [List.length_append, hl1, hdl]; omega)]
    rw [List.take_of_length_le (by rw [List.length_append, hl1, hdl]; omega)]
  have kp : ∀ (W : World) (a : Addr) (c : Nat), W.heap[g]? = some (.cells cur 62 (0, 0)) → (i < n → a = ⟨g, (i + 1) * 3, none⟩) → ∀ ty, ∃ v' w', (Builtin.append_ #[46, 46] ty #[.slice (some ⟨g, 0, none⟩) i cap, .slice (some a) (n - i) c]).run Try.prog W = .ok v' w' ∧ v' = .slice (some ⟨g, 0, none⟩) n cap ∧ w' = W.setRow g NEW := fun W a c hW ha ty => by
    refine ⟨_, _, ?_, rfl, rfl⟩
    rw [run_append_row W 46 62 ty i0 Try.underlying46 hi0 g cur hW i cap a (n - i) c (msgE.flat (xs.drop (i + 1))) (by rw [hdl, hz1]) (fun j u hj => ?_) (El.flat_mem _) (by omega) (by rw [hdl, hz1, hcs3]; have : (i + (n - i)) * 3 ≤ cap * 3 := Nat.mul_le_mul_right _ (by omega); rw [Nat.add_mul] at this; exact this)]
    · rw [hz1, ← hNEW.out, show i + (n - i) = n by omega]
    · have hj' := (List.getElem?_eq_some_iff.1 hj).1
      rw [hdl] at hj'
      have hlt : i < n := by
        rcases Nat.lt_or_ge i n with h | h
        · exact h
        · rw [show n - i = 0 by omega] at hj'; omega
      rw [ha hlt, Addr.add_lit, cells_of_block hW, ← hj, ← El.flat_drop, ← ht, List.getElem?_drop, List.getElem?_take_of_lt (by show (i + 1) * 3 + j < xs.length * 3; rw [← hn.out]; omega)]
      simp
  have kc : ∀ (W : World) (ty : TypeId) (c : Nat), W.heap[g]? = some (.cells NEW 62 (0, 0)) → (Builtin.clear_ #[46] ty #[.slice (some ⟨g, n * 3, none⟩) 1 c]).run Try.prog W = .ok (.tuple #[]) (W.setRow g (NEW.toList.take (n * 3) ++ zs3 1 ++ NEW.toList.drop (n * 3 + 1 * 3)).toArray) := fun W ty c hW => run_clear_row W g NEW hW (n * 3) 1 (by decide) (by rw [hNs]; omega) ty c
  have hfin : ∀ W : World, W.heap = w.heap → W.os = w.os → W.tape = w.tape → W.output = w.output → Hid (DelT w (.slice (some ⟨g, 0, none⟩) xs.length cap) (xs.eraseIdx i) (.returned (.slice (some ⟨g, 0, none⟩) n cap)) ((W.setRow g NEW).setRow g (NEW.toList.take (n * 3) ++ zs3 1 ++ NEW.toList.drop (n * 3 + 1 * 3)).toArray)) := fun W h1 h2 h3 h4 => by
    have hlen : (xs.eraseIdx i).length = n := by rw [List.length_eraseIdx_of_lt hi, ← hn.out]; omega
    have hW : W.heap[g]? = some (.cells cur 62 (0, 0)) := by rw [h1]; exact hbk
    have hW1 := setRow_heap W g _ NEW _ _ hW
    have hW2 := setRow_heap (W.setRow g NEW) g _ (NEW.toList.take (n * 3) ++ zs3 1 ++ NEW.toList.drop (n * 3 + 1 * 3)).toArray _ _ hW1
    refine ⟨_, rfl, ?_, ⟨h2, h3, h4, by rw [setRow_size, setRow_size, h1]; exact Nat.le_refl _, fun b hbl hne => ?_⟩, rfl⟩
    · unfold Rk
      rw [hlen]
      refine ⟨by rw [El.flat_length, hlen], .inr ⟨g, cap, _, rfl, Nat.zero_le _, hW2, by omega, hm, ?_, ?_⟩⟩
      · simp only [List.size_toArray, List.length_append, List.length_take, List.length_drop, Array.length_toList, zs3_length, hNs]
        show _ = cap * 3
        omega
      · rw [← hNt]
        show List.take (n * 3) (_ ++ _ ++ _) = _
        rw [List.append_assoc, List.take_append_of_le_length (by rw [List.length_take, Array.length_toList, hNs]; omega), List.take_take, Nat.min_self]
    · rw [setRow_other _ _ _ _ (fun e => hne (by rw [e]; rfl)), setRow_other _ _ _ _ (fun e => hne (by rw [e]; rfl)), h1]
  obtain ⟨a, ha, ha2⟩ : ∃ a, (if cap = i + 1 then some (⟨g, 0, none⟩ : Addr) else some ⟨g, (i + 1) * 3, none⟩) = some a ∧ (i < n → a = ⟨g, (i + 1) * 3, none⟩) := by
    by_cases e : cap = i + 1
    · exact ⟨_, if_pos e, fun hl => by omega⟩
    · exact ⟨_, if_neg e, fun _ => rfl⟩
  have kpw := kp w.drew a (cap - (i + 1)) hbk ha2
  have kcw := fun ty c => kc (w.drew.setRow g NEW) ty c (setRow_heap w.drew g _ NEW _ _ hbk)
  have hfw := hfin w.drew rfl rfl rfl rfl
  clear kp kc hfin
  generalize (NEW.toList.take (n * 3) ++ zs3 1 ++ NEW.toList.drop (n * 3 + 1 * 3)).toArray = NEW2 at *
  have hx1 : (xs.length : Int) = (n : Int) + 1 := by have := hn.out; omega
  have hx2 : xs.length = n + 1 := by have := hn.out; omega
  rw [hx2] at hfw ⊢
  generalize DelT w (.slice (some ⟨g, 0, none⟩) (n + 1) cap) (xs.eraseIdx i) = T at *
  clear hNEW ht hcell hdl hNt hx1 hx2 hn h
  have hic0 : (0 : Int) ≤ (i : Int) + 1 := by omega
  have hic : i ≤ cap := by omega
  have hcn : ¬ cap = n := by omega
  have hnc2 : n ≤ cap := by omega
  have hic1 : i + 1 ≤ n + 1 := by omega
  have hic2 : i + 1 ≤ cap := by omega
  have hic3 : (i : Int) + 1 ≤ (n : Int) + 1 := by omega
  have hcm : (cap : Int) ≤ 9223372036854775807 := by unfold maxLen at hm; omega
  go_enter Try.func27, Try.ntmps27
  go_wp2
  go_region_law (first
      | (refine step_by (by rfl) _ _ _ (by rfl) (.slice (some ⟨g, 0, none⟩) i cap) (.slice (some a) (n - i) (cap - (i + 1))) (by simp [Act.eval, Act.put]) (by simp [Act.eval, Act.put]) kpw ?_; rintro v3 w3 ⟨rfl, hw3⟩; rw [hw3]; clear hw3 w3))
  all_goals (go_simp; go_wp2)
  all_goals exact hfw.out

theorem drop_no {w : World} {p m : Nat} {fv : Value} {l : List Msg} {P : Int → Int → Bool} {N : Nat} (h : BagAt w p m fv l P N) (i : Int) (hi : ¬ (0 ≤ i ∧ i < (l.length : Int))) :
    Calls Try.prog 18 #[.pointer (some ⟨p, 0, none⟩), .int .i64 i] w fun e w' => e = .returned (.bool false) ∧ w' = w := by
  obtain ⟨q0, q1, q2⟩ := h.cells
  obtain ⟨ao, cap, hfv, -⟩ := h.row.shape
  have kh := has_no (hfv ▸ q0) q1 i hi
  clear hi h
  go_enter Try.func18, Try.ntmps18
  go_wp2_with (go_at_call 25; refine kh.mono ?_; rintro e wq ⟨rfl, hwq⟩; rw [hwq]; clear hwq wq)
  go_ret
  exact ⟨rfl, rfl⟩
set_option maxHeartbeats 1000000 in
theorem drop_yes {w : World} {p m : Nat} {fv : Value} {l : List Msg} {P : Int → Int → Bool} {N : Nat} (h : BagAt w p m fv l P N) (i : Nat) (hi : i < l.length) (hlen : l.length ≤ 1000000) :
    Calls Try.prog 18 #[.pointer (some ⟨p, 0, none⟩), .int .i64 (i : Int)] w (PostT w p m fv (l.eraseIdx i) P N) := by
  obtain ⟨q0, q1, q2⟩ := h.cells
  obtain ⟨n1, n2, n3⟩ := h.ne
  have lp := h.lt p (.inl rfl)
  obtain ⟨ao, cap, hfv, -⟩ := h.row.shape
  have kh := has_yes (hfv ▸ q0) q1 (i : Int) (by omega) (by omega)
  have kd := delete_one w fv l i h.row hi hlen
  have kd2 : Calls Try.prog 27 #[fv, .int .i64 (i : Int), .int .i64 ((i : Int) + 1)] w (fun e w' => ∃ a n c, e = .returned (.slice a n c) ∧ w'.cell? ⟨p, 0, none⟩ = some fv ∧ w'.frozen? ⟨p, 0, none⟩ = false ∧ Hid (PostT w p m fv (l.eraseIdx i) P N (.returned (.bool true)) (w'.setCell ⟨p, 0, none⟩ (.slice a n c)))) := by
    refine kd.mono ?_
    rintro e w1 ⟨v', rfl, r1, r2, r3⟩
    obtain ⟨a, c, e, -⟩ := r1.shape
    subst e
    refine ⟨a, _, c, rfl, cell_grown r2 q0 n2, ?_, rfl, h.stored r2 r1 (fun k hk => .inl (r3 ▸ hk)) fun x hx => h.ok x (List.mem_of_mem_eraseIdx hx)⟩
    rw [frozen_same 0 (r2.block p lp fun e => n2 e.symm)]
    exact q2 0
  subst hfv
  have hii : IntKind.i64.wrap ((i : Int) + 1) = (i : Int) + 1 := IntWalk.i64_in _ (by omega)
  have hib : (i : Int) + 1 ≤ 1000001 := by omega
  generalize PostT w p m (.slice ao l.length cap) (l.eraseIdx i) P N = T at *
  clear h n2 n3 kd
  go_enter Try.func18, Try.ntmps18
  go_wp2_with (first | (go_at_call 25; refine kh.mono ?_; rintro e wq ⟨rfl, hwq⟩; rw [hwq]; clear hwq wq) | (go_at_call 27; refine kd2.mono ?_; rintro e wq ⟨a, n, c, rfl, s0, s1, hfin⟩))
  first | exact hfin.out | (go_ret; exact hfin.out)
end Go.Proofs.Ytjkjekhbfjjnjaa


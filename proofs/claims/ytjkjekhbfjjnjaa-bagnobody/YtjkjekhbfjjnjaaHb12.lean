import Derived.Test.YtjkjekhbfjjnjaaHb11
/- The contracts of Part, Heal and Deliver. -/
namespace Go.Proofs.Ytjkjekhbfjjnjaa
open Go.RowKit Go.Maps
set_option maxRecDepth 100000
set_option linter.unusedSimpArgs false
set_option linter.unusedVariables false

/-- The map turned. -/
theorem BagAt.turned {w w1 : World} {p m : Nat} {fv : Value} {l : List Msg} {P P' : Int → Int → Bool} {N N' : Nat} (h : BagAt w p m fv l P N) (hb : Below w.heap.size w w1) {w2 : World} {c : Nat} (hM : Mq 59 w2 m (pm P') c) (hc : c ≤ N') (ht : w1.mapTurned w2 m) : Did w p m fv l P' N' w2 := by
  obtain ⟨n1, n2, n3⟩ := h.ne
  have h1 := h.below hb
  have hg := ht.grown
  refine ⟨fv, ⟨(hg.block p (h1.lt p (.inl rfl)) (by simpa using n1)).trans h1.box, h1.row.same fun k hk => hg.block k (h1.row.lt hk) (fun e => n3 (by rw [← e]; exact hk)), ⟨c, hc, hM⟩, h.ok⟩, ⟨hg.os.trans hb.os, hg.tape.trans hb.tape, hg.output.trans hb.output, Nat.le_trans hb.size hg.size, fun k hk hS => (hg.block k (Nat.lt_of_lt_of_le hk hb.size) (fun e => hS (.inr (.inl (by simpa using e))))).trans (hb.block k hk)⟩, fun k hk => .inl hk⟩

set_option maxHeartbeats 1000000 in
theorem heal_of {w : World} {p m : Nat} {fv : Value} {l : List Msg} {P : Int → Int → Bool} {N : Nat} (h : BagAt w p m fv l P N) :
    Calls Try.prog 20 #[.pointer (some ⟨p, 0, none⟩)] w fun e w' => e = .returned (.tuple #[]) ∧ Did w p m fv l (fun _ _ => false) N w' := by
  obtain ⟨q0, q1, q2⟩ := h.cells
  have kg := given_of (fv := fv) q1
  obtain ⟨c, hc, hM⟩ := h.map
  have kc := fun ty => hM.clear Try.underlying47 ty
  obtain ⟨w', e1, e2, e3⟩ := kc 0
  have kc' : ∀ ty, (Builtin.clear_ #[47] ty #[.map (some m)]).run Try.prog w = .ok (.tuple #[]) w' := fun ty => e1
  have hfin : Hid (Did w p m fv l (fun _ _ => false) N w') := h.turned (Below.refl _ _) (by rw [pm_none]; exact e2) (Nat.zero_le _) e3
  clear kc e1 e2 e3 hM h
  go_enter Try.func20, Try.ntmps20
  go_wp2_with (go_at_call 23; refine kg.mono ?_; rintro e wq ⟨rfl, hwq⟩; rw [hwq]; clear hwq wq)
  go_end0
  exact ⟨rfl, hfin.out⟩

theorem part_same {w : World} {p m : Nat} {fv : Value} {l : List Msg} {P : Int → Int → Bool} {N : Nat} (h : BagAt w p m fv l P N) (a : Int) :
    Calls Try.prog 19 #[.pointer (some ⟨p, 0, none⟩), .int .i64 a, .int .i64 a] w fun e w' => e = .returned (.tuple #[]) ∧ w' = w := by
  obtain ⟨q0, q1, q2⟩ := h.cells
  have kg := given_of (fv := fv) q1
  go_enter Try.func19, Try.ntmps19
  go_wp2_with (go_at_call 23; refine kg.mono ?_; rintro e wq ⟨rfl, hwq⟩; rw [hwq]; clear hwq wq)
  exact bodyPost_ret (results_none rfl _ _ _) rfl ⟨rfl, rfl⟩

set_option maxHeartbeats 2000000 in
theorem part_of {w : World} {p m : Nat} {fv : Value} {l : List Msg} {P : Int → Int → Bool} {N : Nat} (h : BagAt w p m fv l P N) (a b : Int) (ha : i64 a) (hb : i64 b) (hab : a ≠ b) (hN : N ≤ 1000000) :
    Calls Try.prog 19 #[.pointer (some ⟨p, 0, none⟩), .int .i64 a, .int .i64 b] w fun e w' => e = .returned (.tuple #[]) ∧ Did w p m fv l (partP P (lo a b) (hi a b)) (N + 1) w' := by
  obtain ⟨q0, q1, q2⟩ := h.cells
  have kg := given_of (fv := fv) q1
  have kp := fun W => pairOf_of W a b
  have hkey := pKey_key (lo_i64 ha hb).1 (lo_i64 ha hb).2
  have hB0 : Below w.heap.size w w := Below.refl _ _
  have hB1 : ∀ W o, Below w.heap.size w W → Below w.heap.size w (W.alloc o) := fun W o hW => hW.alloc hW.size o
  have hB2 : ∀ W, Below w.heap.size w W → Below w.heap.size w W.drew := fun W hW => hW.drew
  have kput : ∀ W, Below w.heap.size w W → ∃ w', (Instr.mapUpdate 47 (.map (some m)) (.agg #[.int .i64 (lo a b), .int .i64 (hi a b)]) (.agg #[])).run Try.prog W = .ok () w' ∧ Hid (Did w p m fv l (partP P (lo a b) (hi a b)) (N + 1) w') ∧ w'.cell? ⟨p, 1, none⟩ = some (.map (some m)) := fun W hW => by
    obtain ⟨c, hc, hM⟩ := (h.below hW).map
    obtain ⟨w', e1, e2, e3⟩ := hM.put (Keyed.of_law pair_law) Try.underlying47 (by unfold maxLen; omega) hkey (.agg #[]) (pm (partP P (lo a b) (hi a b))) (pm_part P _ _).1 (pm_part P _ _).2
    have hd := h.turned (N' := N + 1) hW e2 (by split <;> omega) e3
    obtain ⟨fv', hd1, hd2⟩ := id hd
    exact ⟨w', e1, hd, hd1.cells.2.1⟩
  have lp := h.lt p (.inl rfl)
  have hq1 : ∀ W, Below w.heap.size w W → W.cell? ⟨p, 1, none⟩ = some (.map (some m)) := fun W hW => (hW.cell (p := ⟨p, 1, none⟩) lp).trans q1
  obtain ⟨w1, e1, f1, f2⟩ := kput _ (hB2 _ (hB1 _ (.cells #[.int .i64 (lo a b), .int .i64 (hi a b)] 59) hB0))
  have hab' : ((a : Int) == b) = false := by simpa using hab
  clear kput hkey h
  generalize Did w p m fv l (partP P (lo a b) (hi a b)) (N + 1) = T at *
  generalize lo a b = x at *
  generalize hi a b = y at *
  go_enter Try.func19, Try.ntmps19
  go_wp2_with (go_at_call 23; refine kg.mono ?_; rintro e wq ⟨rfl, hwq⟩; rw [hwq]; clear hwq wq)
  go_region_held (fun w' => w'.cell? ⟨p, 1, none⟩ = some (.map (some m))) ((first | exact f2 | exact hq1 _ (by repeat (first | exact hB0 | apply hB1 | apply hB2)))) ((go_at_call 24; refine (kp _).mono ?_; rintro e wc ⟨rfl, hwc⟩; rw [hwc]; clear hwc wc))
  all_goals (go_end0; exact ⟨rfl, f1.out⟩)

theorem Did.pre {w w1 w2 : World} {p m : Nat} {fv : Value} {l : List Msg} {P : Int → Int → Bool} {N : Nat} (h : Did w1 p m fv l P N w2) (hb : Below w.heap.size w w1) : Did w p m fv l P N w2 := by
  obtain ⟨fv', h1, h2, h3⟩ := h
  refine ⟨fv', h1, ⟨h2.os.trans hb.os, h2.tape.trans hb.tape, h2.output.trans hb.output, Nat.le_trans hb.size h2.size, fun k hk hS => (h2.block k (Nat.lt_of_lt_of_le hk hb.size) hS).trans (hb.block k hk)⟩, fun k hk => (h3 k hk).imp id fun h => Nat.le_trans hb.size h⟩
theorem Did.post {w w2 w3 : World} {p m : Nat} {fv : Value} {l : List Msg} {P : Int → Int → Bool} {N : Nat} (h : Did w p m fv l P N w2) (hb : Below w2.heap.size w2 w3) : Did w p m fv l P N w3 := by
  obtain ⟨fv', h1, h2, h3⟩ := h
  exact ⟨fv', h1.below hb, ⟨hb.os.trans h2.os, hb.tape.trans h2.tape, hb.output.trans h2.output, Nat.le_trans h2.size hb.size, fun k hk hS => (hb.block k (Nat.lt_of_lt_of_le hk h2.size)).trans (h2.block k hk hS)⟩, h3⟩

theorem deliver_no {w : World} {p m : Nat} {fv : Value} {l : List Msg} {P : Int → Int → Bool} {N : Nat} (h : BagAt w p m fv l P N) (i : Int) (hi : ¬ (0 ≤ i ∧ i < (l.length : Int))) :
    Calls Try.prog 15 #[.pointer (some ⟨p, 0, none⟩), .int .i64 i] w fun e w' => NoT e ∧ w' = w := by
  obtain ⟨q0, q1, q2⟩ := h.cells
  obtain ⟨ao, cap, hfv, -⟩ := h.row.shape
  have kh := has_no (hfv ▸ q0) q1 i hi
  clear hi h
  go_enter Try.func15, Try.ntmps15
  go_wp2_with (go_at_call 25; refine kh.mono ?_; rintro e wq ⟨rfl, hwq⟩; rw [hwq]; clear hwq wq)
  refine bodyPost_ret (results_tmp4 rfl _ _ _) rfl ?_
  exact ⟨rfl, rfl⟩

/-- What Deliver tells and leaves. -/
def DelvT (w : World) (p m : Nat) (fv : Value) (x : Msg) (l' : List Msg) (P : Int → Int → Bool) (N : Nat) (lost : Bool) (e : Ending) (w' : World) : Prop :=
  (if lost then NoT e else ∃ v, e = .returned (.tuple #[.int .i64 x.1, .int .i64 x.2.1, v, .bool true]) ∧ Nb w.heap.size w' v x.2.2) ∧ Did w p m fv l' P N w'

set_option maxHeartbeats 2000000 in
theorem deliver_yes {w : World} {p m : Nat} {fv : Value} {l : List Msg} {P : Int → Int → Bool} {N : Nat} (h : BagAt w p m fv l P N) (i : Nat) (x : Msg) (hx : l[i]? = some x) (hlen : l.length ≤ 1000000) :
    Calls Try.prog 15 #[.pointer (some ⟨p, 0, none⟩), .int .i64 (i : Int)] w (DelvT w p m fv x (l.eraseIdx i) P N (P (lo x.1 x.2.1) (hi x.1 x.2.1))) := by
  obtain ⟨q0, q1, q2⟩ := h.cells
  have hok := h.ok x (List.mem_of_getElem? hx)
  have hil := (List.getElem?_eq_some_iff.1 hx).1
  obtain ⟨g, cap, hfv, hle, hm, hg, c0, c1, c2, hf⟩ := msg_cells h.row hx
  have hii : (i : Int) < (l.length : Int) := by omega
  have kh := has_yes (hfv ▸ q0) q1 (i : Int) (by omega) hii
  have a1 := (Below.refl w.heap.size w).alloc (Nat.le_refl _) (.cells #[.int .i64 x.1, .int .i64 x.2.1, .string (str x.2.2)] 62)
  have s1 : (w.alloc (.cells #[.int .i64 x.1, .int .i64 x.2.1, .string (str x.2.2)] 62)).heap.size = w.heap.size + 1 := by simp
  have nb := heap_alloc_new w (.cells #[.int .i64 x.1, .int .i64 x.2.1, .string (str x.2.2)] 62)
  have kd := drop_yes (h.below a1) i hil hlen
  -- behind Drop
  have k2 : ∀ W, Did (w.alloc (.cells #[.int .i64 x.1, .int .i64 x.2.1, .string (str x.2.2)] 62)) p m fv (l.eraseIdx i) P N W → Hid ((∀ W', Below W.heap.size W W' → W'.cell? ⟨w.heap.size, 0, none⟩ = some (.int .i64 x.1) ∧ W'.cell? ⟨w.heap.size, 1, none⟩ = some (.int .i64 x.2.1) ∧ W'.cell? ⟨w.heap.size, 2, none⟩ = some (.string (str x.2.2))) ∧
      Calls Try.prog 11 #[.pointer (some ⟨p, 0, none⟩), .int .i64 x.1, .int .i64 x.2.1] W (fun e w' => e = .returned (.bool (P (lo x.1 x.2.1) (hi x.1 x.2.1))) ∧ Below W.heap.size W w') ∧ w.heap.size + 1 ≤ W.heap.size) := fun W hD => by
    obtain ⟨fv', d1, d2, d3⟩ := id hD
    have hnew : ¬ Mine p m fv w.heap.size := fun e => by have := h.lt _ e; omega
    have hW : W.heap[w.heap.size]? = some (.cells #[.int .i64 x.1, .int .i64 x.2.1, .string (str x.2.2)] 62 (0, 0)) := (d2.block w.heap.size (by rw [s1]; omega) hnew).trans nb
    refine ⟨fun W' hb => ?_, parted_of d1 x.1 x.2.1 hok.1 hok.2.1, by have := d2.size; rw [s1] at this; exact this⟩
    have hW' : W'.heap[w.heap.size]? = _ := (hb.block _ (Array.getElem?_eq_some_iff.1 hW).1).trans hW
    rw [cells_of_block hW', cells_of_block hW', cells_of_block hW']
    exact ⟨rfl, rfl, rfl⟩
  have hcv := conv_run
  -- behind all
  have hfin : ∀ W2 W3 : World, Did (w.alloc (.cells #[.int .i64 x.1, .int .i64 x.2.1, .string (str x.2.2)] 62)) p m fv (l.eraseIdx i) P N W2 → Below W2.heap.size W2 W3 → w.heap.size + 1 ≤ W2.heap.size → Hid (Did w p m fv (l.eraseIdx i) P N W3 ∧ Nb w.heap.size (W3.drew.drew.alloc (.cells (bytesRow (str x.2.2) (grownCap W3.drew (str x.2.2).size 0 5)) 5 ((bytesRow (str x.2.2) (grownCap W3.drew (str x.2.2).size 0 5)).size, (bytesRow (str x.2.2) (grownCap W3.drew (str x.2.2).size 0 5)).size + 1))) (.slice (some ⟨W3.heap.size, 0, none⟩) (str x.2.2).size (grownCap W3.drew (str x.2.2).size 0 5)) x.2.2 ∧ Did w p m fv (l.eraseIdx i) P N (W3.drew.drew.alloc (.cells (bytesRow (str x.2.2) (grownCap W3.drew (str x.2.2).size 0 5)) 5 ((bytesRow (str x.2.2) (grownCap W3.drew (str x.2.2).size 0 5)).size, (bytesRow (str x.2.2) (grownCap W3.drew (str x.2.2).size 0 5)).size + 1)))) := fun W2 W3 hD hb hsz => by
    have h3 := (hD.pre a1).post hb
    have hn := Nb.made W3.drew x.2.2 hok.2.2.1 hok.2.2.2
    refine ⟨h3, ?_, h3.post (((Below.refl W3.heap.size W3).drew.drew).alloc (Nat.le_refl _) _)⟩
    obtain ⟨g, cap, cur, fz, e, r1, r2, r3, r4⟩ := hn
    have hs3 := hb.size
    have r3' : W3.heap.size ≤ g := r3
    exact ⟨g, cap, cur, fz, e, r1, r2, by omega, r4⟩
  subst hfv
  generalize hPd : P (lo x.1 x.2.1) (hi x.1 x.2.1) = R at *
  clear hok h hx nb hf hPd
  cases R
  · go_enter Try.func15, Try.ntmps15
    go_wp2_with (first | (go_at_call 25; refine kh.mono ?_; rintro e wq ⟨rfl, hwq⟩; rw [hwq]; clear hwq wq) | (go_at_call 18; refine kd.mono ?_; rintro e W2 ⟨rfl, hD⟩; obtain ⟨hc2, kpa, hsz⟩ := (k2 W2 hD).out; obtain ⟨b0, b1, b2⟩ := hc2 W2 (Below.refl _ _)) | (go_at_call 11; refine kpa.mono ?_; rintro e W3 ⟨rfl, hb3⟩; obtain ⟨b0', b1', b2'⟩ := hc2 W3 hb3; have hlt3 := World.block_lt_of_cell? W3 _ b0'; obtain ⟨f1, f2, f3⟩ := (hfin W2 W3 hD hb3 hsz).out))
    clear hc2 kpa k2 kd hfin b0 b1 b2 kh
    have F2 : Hid _ := f2
    have F3 : Hid _ := f3
    clear f2 f3
    go_region_held (fun w' => w'.cell? ⟨w.heap.size, 0, none⟩ = some (.int .i64 x.1) ∧ w'.cell? ⟨w.heap.size, 1, none⟩ = some (.int .i64 x.2.1) ∧ w'.cell? ⟨w.heap.size, 2, none⟩ = some (.string (str x.2.2))) (go_keep) (fail)
    go_wp2
    refine bodyPost_ret (results_tmp4 rfl _ _ _) rfl ?_
    exact ⟨⟨_, rfl, F2.out⟩, F3.out⟩
  · go_enter Try.func15, Try.ntmps15
    go_wp2_with (first | (go_at_call 25; refine kh.mono ?_; rintro e wq ⟨rfl, hwq⟩; rw [hwq]; clear hwq wq) | (go_at_call 18; refine kd.mono ?_; rintro e W2 ⟨rfl, hD⟩; obtain ⟨hc2, kpa, hsz⟩ := (k2 W2 hD).out; obtain ⟨b0, b1, b2⟩ := hc2 W2 (Below.refl _ _)) | (go_at_call 11; refine kpa.mono ?_; rintro e W3 ⟨rfl, hb3⟩; obtain ⟨b0', b1', b2'⟩ := hc2 W3 hb3; obtain ⟨f1, f2, f3⟩ := (hfin W2 W3 hD hb3 hsz).out))
    refine bodyPost_ret (results_tmp4 rfl _ _ _) rfl ?_
    exact ⟨rfl, f1⟩
end Go.Proofs.Ytjkjekhbfjjnjaa


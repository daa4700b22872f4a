import Derived.Test.YtjkjekhbfjjnjaaHb07
import Derived.Deep.RegionHeld
/- The contracts of Look, pairOf and Parted. -/
namespace Go.Proofs.Ytjkjekhbfjjnjaa
open Go.RowKit Go.Maps
set_option maxRecDepth 100000
set_option linter.unusedSimpArgs false
set_option linter.unusedVariables false

/-- Bytes of one's own in a row from block n on, each of which may be turned. -/
def Nb (n : Nat) (w : World) (v : Value) (d : List Nat) : Prop :=
  ∃ g cap cur fz, v = .slice (some ⟨g, 0, none⟩) d.length cap ∧ d.length ≤ cap ∧ cap ≤ maxLen ∧ n ≤ g ∧ w.heap[g]? = some (.cells cur 5 fz) ∧ d.length ≤ fz.1 ∧ ∀ (j c : Nat), d[j]? = some c → cur[j]? = some (.int .u8 (c : Int))
theorem Nb.bs {n : Nat} {w : World} {v : Value} {d : List Nat} (h : Nb n w v d) : @Bs keepAll w.heap.size w v d := by
  obtain ⟨g, cap, cur, fz, rfl, h1, h2, h3, h4, h5, h6⟩ := h
  refine ⟨_, _, rfl, h1, h2, (fun e => by cases e), fun hne => ⟨g, 0, rfl, ⟨(Array.getElem?_eq_some_iff.1 h4).1, trivial⟩, fun j c hj => ?_⟩⟩
  have := h6 j c hj
  simp [World.cell?, h4, this]
theorem Nb.below {n : Nat} {w w' : World} {v : Value} {d : List Nat} (h : Nb n w v d) (hb : Below w.heap.size w w') : Nb n w' v d := by
  obtain ⟨g, cap, cur, fz, rfl, h1, h2, h3, h4, h5, h6⟩ := h
  exact ⟨g, cap, cur, fz, rfl, h1, h2, h3, (hb.block g (Array.getElem?_eq_some_iff.1 h4).1).trans h4, h5, h6⟩
theorem Nb.made (w : World) (d : List Nat) (hd : ∀ c ∈ d, c < 256) (hl : d.length ≤ maxLen) :
    Nb w.heap.size (w.drew.alloc (.cells (bytesRow (str d) (grownCap w (str d).size 0 5)) 5 ((bytesRow (str d) (grownCap w (str d).size 0 5)).size, (bytesRow (str d) (grownCap w (str d).size 0 5)).size + 1))) (.slice (some ⟨w.heap.size, 0, none⟩) (str d).size (grownCap w (str d).size 0 5)) d := by
  have hge := grownCap_ge w (str d).size 0 5
  have hle := grownCap_le_maxLen w (str d).size 0 5 (by rw [str_size]; exact hl)
  have hsz : (bytesRow (str d) (grownCap w (str d).size 0 5)).size = grownCap w (str d).size 0 5 := by
    unfold bytesRow
    have : (str d).data.size = (str d).size := rfl
    simp [this]
    omega
  rw [str_size] at *
  refine ⟨w.heap.size, _, _, _, rfl, hge, hle, Nat.le_refl _, heap_alloc_new w.drew _, by rw [hsz]; exact hge, fun j c hj => ?_⟩
  have hj' := (List.getElem?_eq_some_iff.1 hj).1
  unfold bytesRow
  rw [Array.getElem?_append_left (by simp [str, hj'])]
  have hc : c < 256 := hd c (List.mem_of_getElem? hj)
  simp [str, hj, Nat.mod_eq_of_lt hc]
theorem conv_run (W : World) (s : ByteArray) : (convert 9 31 (.string s)).run Try.prog W = .ok (.slice (some ⟨W.heap.size, 0, none⟩) s.size (grownCap W s.size 0 5)) (W.drew.alloc (.cells (bytesRow s (grownCap W s.size 0 5)) 5 ((bytesRow s (grownCap W s.size 0 5)).size, (bytesRow s (grownCap W s.size 0 5)).size + 1))) :=
  run_bytes_of_string (P := Try.prog) W 9 31 5 s Try.underlying9 Try.underlying31 Try.underlying5

/-- What Look tells of a message. -/
def LookT (w : World) (x : Msg) (e : Ending) (w' : World) : Prop :=
  ∃ v, e = .returned (.tuple #[.int .i64 x.1, .int .i64 x.2.1, v, .bool true]) ∧ Nb w.heap.size w' v x.2.2 ∧ Below w.heap.size w w'
def NoT (e : Ending) : Prop := e = .returned (.tuple #[.int .i64 0, .int .i64 0, .slice none 0 0, .bool false])

theorem msg_cells {w : World} {v : Value} {l : List Msg} {t : TypeId} (h : Rk msgE w t v l) {i : Nat} {x : Msg} (hx : l[i]? = some x) :
    ∃ g cap, v = .slice (some ⟨g, 0, none⟩) l.length cap ∧ l.length ≤ cap ∧ cap ≤ maxLen ∧ g < w.heap.size ∧ w.cell? ⟨g, i * 3, none⟩ = some (.int .i64 x.1) ∧ w.cell? ⟨g, i * 3 + 1, none⟩ = some (.int .i64 x.2.1) ∧ w.cell? ⟨g, i * 3 + 2, none⟩ = some (.string (str x.2.2)) ∧ ∀ j, w.frozen? ⟨g, j, none⟩ = false := by
  have hi := (List.getElem?_eq_some_iff.1 hx).1
  obtain ⟨g, cap, cur, rfl, h1, h2, h3, h4, h5, h6, h7⟩ := h.cells (by omega)
  exact ⟨g, cap, rfl, h1, h2, (Array.getElem?_eq_some_iff.1 h3).1, h6 i x 0 hx (by decide), h6 i x 1 hx (by decide), h6 i x 2 hx (by decide), h7⟩

set_option maxHeartbeats 1000000 in
theorem look_yes {w : World} {p m : Nat} {fv : Value} {l : List Msg} {P : Int → Int → Bool} {N : Nat} (h : BagAt w p m fv l P N) (i : Nat) (x : Msg) (hx : l[i]? = some x) (hlen : l.length ≤ 1000000) :
    Calls Try.prog 13 #[.pointer (some ⟨p, 0, none⟩), .int .i64 (i : Int)] w (LookT w x) := by
  obtain ⟨q0, q1, q2⟩ := h.cells
  have hok := h.ok x (List.mem_of_getElem? hx)
  have hi := (List.getElem?_eq_some_iff.1 hx).1
  obtain ⟨g, cap, rfl, hle, hm, hg, c0, c1, c2, hf⟩ := msg_cells h.row hx
  have hii : (i : Int) < (l.length : Int) := by omega
  have kh := has_yes q0 q1 (i : Int) (by omega) hii
  have hcv := conv_run
  have hfin : ∀ W : World, W.heap = (w.alloc (.cells #[.int .i64 x.1, .int .i64 x.2.1, .string (str x.2.2)] 62)).heap → W.os = w.os → W.tape = w.tape → W.output = w.output → Hid (Nb w.heap.size (W.drew.alloc (.cells (bytesRow (str x.2.2) (grownCap W (str x.2.2).size 0 5)) 5 ((bytesRow (str x.2.2) (grownCap W (str x.2.2).size 0 5)).size, (bytesRow (str x.2.2) (grownCap W (str x.2.2).size 0 5)).size + 1))) (.slice (some ⟨w.heap.size + 1, 0, none⟩) (str x.2.2).size (grownCap W (str x.2.2).size 0 5)) x.2.2 ∧ Below w.heap.size w (W.drew.alloc (.cells (bytesRow (str x.2.2) (grownCap W (str x.2.2).size 0 5)) 5 ((bytesRow (str x.2.2) (grownCap W (str x.2.2).size 0 5)).size, (bytesRow (str x.2.2) (grownCap W (str x.2.2).size 0 5)).size + 1)))) := fun W hW h1 h2 h3 => by
    have hs : W.heap.size = w.heap.size + 1 := by rw [hW]; simp
    have hb : Below w.heap.size w W := ⟨h1, h2, h3, by omega, fun k hk => by rw [hW]; exact heap_alloc_old _ _ hk⟩
    have hn := Nb.made W x.2.2 hok.2.2.1 hok.2.2.2
    rw [hs] at hn
    refine ⟨?_, hb.drew.alloc (by show _ ≤ W.heap.size; omega) _⟩
    obtain ⟨g, cap, cur, fz, e, r1, r2, r3, r4⟩ := hn
    exact ⟨g, cap, cur, fz, e, r1, r2, by omega, r4⟩
  clear hok h hx
  go_enter Try.func13, Try.ntmps13
  go_wp2_with (go_at_call 25; refine kh.mono ?_; rintro e wq ⟨rfl, hwq⟩; rw [hwq]; clear hwq wq)
  go_region_held (fun w' => w'.cell? ⟨w.heap.size, 0, none⟩ = some (.int .i64 x.1) ∧ w'.cell? ⟨w.heap.size, 1, none⟩ = some (.int .i64 x.2.1) ∧ w'.cell? ⟨w.heap.size, 2, none⟩ = some (.string (str x.2.2))) (go_keep) (fail)
  go_wp2
  refine bodyPost_ret (results_tmp4 rfl _ _ _) rfl ?_
  obtain ⟨f1, f2⟩ := (hfin (w.alloc (.cells #[.int .i64 x.1, .int .i64 x.2.1, .string (str x.2.2)] 62)).drew rfl rfl rfl rfl).out
  exact ⟨_, rfl, f1, f2⟩
theorem look_no {w : World} {p m : Nat} {fv : Value} {l : List Msg} {P : Int → Int → Bool} {N : Nat} (h : BagAt w p m fv l P N) (i : Int) (hi : ¬ (0 ≤ i ∧ i < (l.length : Int))) :
    Calls Try.prog 13 #[.pointer (some ⟨p, 0, none⟩), .int .i64 i] w fun e w' => NoT e ∧ w' = w := by
  obtain ⟨q0, q1, q2⟩ := h.cells
  obtain ⟨ao, cap, rfl, -⟩ := h.row.shape
  have kh := has_no q0 q1 i hi
  clear hi
  go_enter Try.func13, Try.ntmps13
  go_wp2_with (go_at_call 25; refine kh.mono ?_; rintro e wq ⟨rfl, hwq⟩; rw [hwq]; clear hwq wq)
  refine bodyPost_ret (results_tmp4 rfl _ _ _) rfl ?_
  exact ⟨rfl, rfl⟩

/-- Two numbers, the lower one first. -/
def lo (a b : Int) : Int := if b < a then b else a
def hi (a b : Int) : Int := if a < b then b else a
theorem lo_hi (a b : Int) : (a < b ∧ lo a b = a ∧ hi a b = b) ∨ (b < a ∧ lo a b = b ∧ hi a b = a) ∨ (a = b ∧ lo a b = a ∧ hi a b = a) := by
  unfold lo hi
  rcases Int.lt_trichotomy a b with h | h | h
  · exact .inl ⟨h, if_neg (by omega), if_pos h⟩
  · exact .inr (.inr ⟨h, if_neg (by omega), if_neg (by omega)⟩)
  · exact .inr (.inl ⟨h, if_pos h, if_neg (by omega)⟩)
theorem lo_i64 {a b : Int} (ha : i64 a) (hb : i64 b) : i64 (lo a b) ∧ i64 (hi a b) := by
  rcases lo_hi a b with ⟨_, h1, h2⟩ | ⟨_, h1, h2⟩ | ⟨_, h1, h2⟩ <;> rw [h1, h2] <;> first | exact ⟨ha, hb⟩ | exact ⟨hb, ha⟩ | exact ⟨ha, ha⟩
theorem pairOf_of (w : World) (a b : Int) : Calls Try.prog 24 #[.int .i64 a, .int .i64 b] w fun e w' => e = .returned (.agg #[.int .i64 (lo a b), .int .i64 (hi a b)]) ∧ w' = w.alloc (.cells #[.int .i64 (lo a b), .int .i64 (hi a b)] 59) := by
  rcases lo_hi a b with ⟨h, h1, h2⟩ | ⟨h, h1, h2⟩ | ⟨h, h1, h2⟩ <;> rw [h1, h2] <;> clear h1 h2
  · go_enter Try.func24, Try.ntmps24
    go_wp2
    exact bodyPost_ret (v := .agg #[.int .i64 a, .int .i64 b]) (by simp [results, Try.results24, go_sem]) rfl ⟨rfl, rfl⟩
  · go_enter Try.func24, Try.ntmps24
    go_wp2
    exact bodyPost_ret (v := .agg #[.int .i64 b, .int .i64 a]) (by simp [results, Try.results24, go_sem]) rfl ⟨rfl, rfl⟩
  · subst h
    go_enter Try.func24, Try.ntmps24
    go_wp2
    exact bodyPost_ret (v := .agg #[.int .i64 a, .int .i64 a]) (by simp [results, Try.results24, go_sem]) rfl ⟨rfl, rfl⟩

theorem zeroUnit (w : World) : (zeroValue 56).run Try.prog w = .ok (.agg #[]) w := by kernel_rfl
set_option maxHeartbeats 1000000 in
theorem parted_of {w : World} {p m : Nat} {fv : Value} {l : List Msg} {P : Int → Int → Bool} {N : Nat} (h : BagAt w p m fv l P N) (a b : Int) (ha : i64 a) (hb : i64 b) :
    Calls Try.prog 11 #[.pointer (some ⟨p, 0, none⟩), .int .i64 a, .int .i64 b] w fun e w' => e = .returned (.bool (P (lo a b) (hi a b))) ∧ Below w.heap.size w w' := by
  obtain ⟨q0, q1, q2⟩ := h.cells
  have kg := given_of (fv := fv) q1
  have kp := fun W => pairOf_of W a b
  have hkey := pKey_key (lo_i64 ha hb).1 (lo_i64 ha hb).2
  have hlk : ∀ W, Below w.heap.size w W → (Instr.lookup 47 (.map (some m)) (.agg #[.int .i64 (lo a b), .int .i64 (hi a b)]) true).run Try.prog W = .ok (.tuple #[.agg #[], .bool (P (lo a b) (hi a b))]) W := fun W hW => by
    obtain ⟨c, hc, hM⟩ := (h.below hW).map
    have := hM.look_ok (Keyed.of_law pair_law) Try.underlying47 (zeroUnit W) hkey
    rw [pm_at] at this
    rw [show (Value.agg #[.int .i64 (lo a b), .int .i64 (hi a b)]) = pKey (lo a b) (hi a b) from rfl, this]
    cases P (lo a b) (hi a b) <;> rfl
  have hpl := h.lt p (.inl rfl)
  have hB0 : Below w.heap.size w w := Below.refl _ _
  have hq1 : ∀ W, Below w.heap.size w W → W.cell? ⟨p, 1, none⟩ = some (.map (some m)) := fun W hW => (hW.cell (p := ⟨p, 1, none⟩) hpl).trans q1
  have hB1 : ∀ W o, Below w.heap.size w W → Below w.heap.size w (W.alloc o) := fun W o hW => hW.alloc hW.size o
  have hB2 : ∀ W, Below w.heap.size w W → Below w.heap.size w W.drew := fun W hW => hW.drew
  generalize P (lo a b) (hi a b) = R at *
  generalize lo a b = x at *
  generalize hi a b = y at *
  clear h hkey
  go_enter Try.func11, Try.ntmps11
  go_wp2_with (go_at_call 23; refine kg.mono ?_; rintro e wq ⟨rfl, hwq⟩; rw [hwq]; clear hwq wq)
  go_region_held (fun w' => w'.cell? ⟨p, 1, none⟩ = some (.map (some m)) ∧ (Instr.lookup 47 (.map (some m)) (.agg #[.int .i64 x, .int .i64 y]) true).run Try.prog w' = .ok (.tuple #[.agg #[], .bool R]) w') ((exact ⟨hq1 _ (by repeat (first | exact hB0 | apply hB1 | apply hB2)), hlk _ (by repeat (first | exact hB0 | apply hB1 | apply hB2))⟩)) ((go_at_call 24; refine (kp _).mono ?_; rintro e wc ⟨rfl, hwc⟩; rw [hwc]; clear hwc wc))
  all_goals (go_wp2; go_ret; exact ⟨rfl, by repeat (first | exact hB0 | apply hB1 | apply hB2)⟩)
end Go.Proofs.Ytjkjekhbfjjnjaa


import Derived.Test.YtljfhafmedngnaaGreatDoorP43
/- The contract of a log's Get. -/
namespace Go.Proofs.YtljfhafmedngnaaGreatDoor
open Go.RowKit WalMath DiskMath
set_option maxRecDepth 100000
set_option linter.unusedSimpArgs false
set_option linter.unusedVariables false

theorem endI_at (rs : List Rec) (j : Nat) (h : j ≤ rs.length) : endI (plc 0 rs) j = sz (rs.take j) := by
  cases j with
  | zero => simp [endI, sz_nil]
  | succ n =>
    show ((plc 0 rs)[n]?.map Prod.snd).getD 0 = _
    rw [plc_get rs 0 n rs[n] (List.getElem?_eq_getElem (by omega))]
    simp

theorem has_rec {s : Seg} {idx : Nat} (hok : okAll s.recs) (hch : chn 0 s.recs) (h : hasIx s idx) : ∃ r, s.recs[idx - firstIx s.recs]? = some r ∧ r.index = idx := by
  obtain ⟨h0, h1, h2⟩ := h
  generalize s.recs = rs at *
  cases rs with
  | nil => exact absurd rfl h0
  | cons t a =>
    have hf : firstIx (t :: a) = t.index := rfl
    rw [hf] at h1 ⊢
    have hl := chn_get a 0 ((t :: a).length - 1) ((t :: a)[(t :: a).length - 1]'(by simp)) t hok hch (List.getElem?_eq_getElem _)
    rw [lastIx_eq, List.getLast?_eq_getElem?, List.getElem?_eq_getElem (by simp)] at h2
    simp only [Option.map_some, Option.getD_some] at h2
    rw [hl] at h2
    have hlen : idx - t.index < (t :: a).length := by
      have : 0 < (t :: a).length := by simp
      omega
    refine ⟨_, List.getElem?_eq_getElem hlen, ?_⟩
    have := chn_get a 0 (idx - t.index) _ t hok hch (List.getElem?_eq_getElem hlen)
    omega

/-- The disk has every segment as the log has it. -/
structure Whole (sg : List Seg) (fs : Files) : Prop where
  len : sg.length ≤ 1000
  at_ : ∀ s ∈ sg, s.num < 100000000 ∧ s.recs.length ≤ 1000 ∧ sz s.recs ≤ 10000 ∧ okAll s.recs ∧ chn 0 s.recs ∧ ∃ f, get fs (segName s.num) = some f ∧ f.data = joinR s.recs
theorem Whole.cons {sg : List Seg} {fs : Files} (h : Whole sg fs) : Cons sg fs := by
  refine ⟨h.len, fun m s _ hs => ?_⟩
  obtain ⟨h1, h2, h3, -, -, f, h4, h5⟩ := h.at_ s (List.mem_of_getElem? hs)
  exact ⟨h1, by omega, f, h4, by rw [h5]; rfl⟩

/-- What Get tells. -/
def GetT (w : World) (sg : List Seg) (idx : Nat) (e : Ending) (w' : World) : Prop :=
  Below w.heap.size w w' ∧ ((∃ s ∈ sg, ∃ r ∈ s.recs, r.index = idx ∧ ∃ v, e = .returned (.tuple #[v, .bool true]) ∧ @Bs keepAll w'.heap.size w' v r.data) ∨ ((∀ s ∈ sg, ¬ hasIx s idx) ∧ e = .returned (.tuple #[.slice none 0 0, .bool false])))

set_option maxHeartbeats 4000000 in
theorem get_of {S : Nat → Prop} {σ : Wm} {w : World} {q : Nat} {d sv : Value} {sg : List Seg} {fs : Files} (idx : Nat) (hT : Tb w) (hD : Dk S w d fs) (hW : WalAt σ w q d sv sg) (hw : Whole sg fs) (hidx : idx < 18446744073709551616) :
    Calls Tryz.prog 24 #[.pointer (some ⟨q, 0, none⟩), .int .u64 (idx : Int)] w (GetT w sg idx) := by
  letI := keepAll
  have hlen := hw.len
  have ka := wawake_of hT hD hW hw.cons
  have kf : ∀ W, Below w.heap.size w W → Calls Tryz.prog 41 #[.pointer (some ⟨q, 0, none⟩), .int .u64 (idx : Int)] W (FoundT W sg idx) := fun W hb => find_w idx (hW.below hb) hw.len (fun s hs => by
    obtain ⟨h1, h2, h3, h4, h5, -⟩ := hw.at_ s hs
    refine ⟨by omega, h4, fun ha hb => ?_⟩
    by_cases he : s.recs = []
    · rw [he] at ha
      have : idx ≤ 0 := ha
      omega
    · obtain ⟨r, hr, -⟩ := has_rec h4 h5 ⟨he, hb, ha⟩
      have := (List.getElem?_eq_some_iff.1 hr).1
      omega) hidx
  obtain ⟨hq1, hat⟩ := row_k hW
  have hq0 : ∀ W, Below w.heap.size w W → W.cell? ⟨q, 0, none⟩ = some d := fun W hb => by rw [cells_of_block (hW.below hb).block]; rfl
  obtain ⟨sa, sc, hsv, -⟩ := hW.segs.shape
  rw [hsv] at hq1
  have E0 : ∀ w', (∀ s ∈ sg, ¬ hasIx s idx) → Below w.heap.size w w' → Hid (GetT w sg idx (.returned (.tuple #[.slice none 0 0, .bool false])) w') := fun w' h1 h3 => ⟨h3, .inr ⟨h1, rfl⟩⟩
  have E1 : ∀ s r v w', s ∈ sg → r ∈ s.recs → r.index = idx → @Bs keepAll w'.heap.size w' v r.data → Below w.heap.size w w' → Hid (GetT w sg idx (.returned (.tuple #[v, .bool true])) w') := fun s r v w' h1 h2 h3 h4 h5 => ⟨h5, .inl ⟨s, h1, r, h2, h3, v, rfl, h4⟩⟩
  have kname : ∀ s pv, s ∈ sg → ∀ W, Below w.heap.size w W → Calls Tryz.prog 38 #[.agg #[.int .i64 (s.num : Int), pv]] W fun e w' => e = .returned (.string (segName s.num)) ∧ Below w.heap.size w w' := fun s pv hs W hb => (sname_of s.num pv W (hT.new hb) (hw.at_ s hs).1).mono fun e w' h => ⟨h.1, hb.trans (h.2.mono hb.size)⟩
  have kread : ∀ s, s ∈ sg → ∀ W, Below w.heap.size w W → Calls Tryz.prog 64 #[d, .string (segName s.num)] W fun e w' => ∃ v, e = .returned (.tuple #[v, .bool true]) ∧ Own W.heap.size w' v (joinR s.recs) ∧ Below w.heap.size w w' := fun s hs W hb => by
    obtain ⟨-, -, -, -, -, f, hf, hfd⟩ := hw.at_ s hs
    refine (dread_of (segName s.num) (segName_max _) (diskOf.below hD hb)).mono ?_
    rintro e w' ⟨v, l, h, hO, hb', hl⟩
    rw [hf] at h hl
    have hl' : l = joinR s.recs := by rw [hl, ← hfd]; rfl
    rw [hl'] at hO
    exact ⟨v, h, hO, hb.trans (hb'.mono hb.size)⟩
  have hbyte : ∀ s ∈ sg, ∀ c ∈ joinR s.recs, c < 256 := fun s hs => by
    obtain ⟨-, -, -, -, -, f, hf, hfd⟩ := hw.at_ s hs
    rw [← hfd]
    exact hD.byte f (get_mem hf)
  obtain ⟨dq, rfl⟩ := hD.shape
  generalize hGT : GetT w sg idx = T at *
  clear hGT hD hW
  go_enter Tryz.func24, Tryz.ntmps24
  go_wp2_with fail
  refine ka.mono ?_
  rintro e w1 ⟨rfl, b1⟩
  have kf1 := kf w1 b1
  clear ka kf
  go_wp2_with fail
  refine kf1.mono ?_
  rintro e w2 ⟨b2', hfnd⟩
  have b2 := b1.trans (b2'.mono b1.size)
  clear kf1
  rcases hfnd with ⟨i, s, hs, hhas, rfl⟩ | ⟨hno, rfl⟩
  · have hsm := List.mem_of_getElem? hs
    obtain ⟨p1, p2, p3, p4, p5, -⟩ := hw.at_ s hsm
    obtain ⟨r, hr, hri⟩ := has_rec p4 p5 hhas
    have hj := (List.getElem?_eq_some_iff.1 hr).1
    have hone := one_at s.recs (joinR s.recs).length (idx - firstIx s.recs) r p4 (by rw [cutN_all s.recs (joinR s.recs).length (Nat.le_refl _)]; exact hj) hr
    rw [List.take_of_length_le (Nat.le_refl _)] at hone
    obtain ⟨g, cap, pa, pc, e1, h1, h2, h3, h4⟩ := hat i s hs
    rw [hsv] at e1
    cases e1
    have hlti : (i : Int) < (sg.length : Int) := by have := (List.getElem?_eq_some_iff.1 hs).1; omega
    have hil : i < sg.length := by omega
    have hdr : Below w.heap.size w w2.drew := b2.drew
    have kend : ∀ W, Below w.heap.size w W → Calls Tryz.prog 66 #[.agg #[.int .i64 (s.num : Int), .slice pa s.recs.length pc], .int .i64 ((idx - firstIx s.recs : Nat) : Int)] W fun e w' => e = .returned (.int .i64 (sz (s.recs.take (idx - firstIx s.recs)) : Int)) ∧ Below W.heap.size W w' := fun W hb => by
      have := endOf_of (s.num : Int) _ _ (idx - firstIx s.recs) W (h4 W hb) (by rw [plc_length]; omega) (by rw [plc_length]; omega)
      rw [endI_at _ _ (by omega)] at this
      exact this
    have kn := kname s (.slice pa s.recs.length pc) hsm _ hdr
    have kr := kread s hsm
    have hE := E1 s r
    have hszle : sz (s.recs.take (idx - firstIx s.recs)) + (recB r).length ≤ (joinR s.recs).length := by
      have := sz_take_mono s.recs (m := idx - firstIx s.recs + 1) (n := s.recs.length) (by omega)
      rw [List.take_succ_eq_append_getElem hj, sz_append, sz_single, List.take_of_length_le (Nat.le_refl _)] at this
      have e9 : s.recs[idx - firstIx s.recs] = r := (List.getElem?_eq_some_iff.1 hr).2
      rw [e9] at this
      exact this
    have hrp := recB_pos r
    have hb8 := hbyte s hsm
    have hrm := List.mem_of_getElem? hr
    have p3' : (joinR s.recs).length ≤ 10000 := p3
    generalize idx - firstIx s.recs = j at *
    generalize hP : sz (s.recs.take j) = P at *
    generalize joinR s.recs = D at *
    generalize hRL : s.recs.length = RL at *
    clear kname kread E0 E1 hat hbyte hw p3 p4 p5 hhas hr hs
    have hS : ∀ W, Below w.heap.size w W → W.cell? ⟨q, 0, none⟩ = some (.pointer (some ⟨dq, 0, none⟩)) ∧ W.cell? ⟨q, 1, none⟩ = some (.slice (some ⟨g, 0, none⟩) sg.length sc) ∧ W.cell? ⟨g, i * 2, none⟩ = some (.int .i64 (s.num : Int)) ∧ W.cell? ⟨g, i * 2 + 1, none⟩ = some (.slice pa RL pc) := fun W hb => ⟨hq0 W hb, hq1 W hb, h3 W hb⟩
    have x0 := hS _ hdr
    clear h3 h4 hq0 hq1
    go_wp2
    go_region_held3 (fun w' => w'.cell? ⟨q, 0, none⟩ = some (.pointer (some ⟨dq, 0, none⟩)) ∧ w'.cell? ⟨q, 1, none⟩ = some (.slice (some ⟨g, 0, none⟩) sg.length sc) ∧ w'.cell? ⟨g, i * 2, none⟩ = some (.int .i64 (s.num : Int)) ∧ w'.cell? ⟨g, i * 2 + 1, none⟩ = some (.slice pa RL pc))
      (first | exact x0 | exact hS _ b3 | exact hS _ b4 | go_keep)
      (first
        | (go_at_call 38; refine kn.mono ?_; rintro e w3 ⟨rfl, b3⟩)
        | (go_at_call 64; refine (kr _ b3).mono ?_; rintro e w4 ⟨bv, rfl, hO, b4⟩))
    clear kn kr x0
    have hOO : Own w3.heap.size w4 bv D := hO
    have hDne : D ≠ [] := List.length_pos_iff.1 (by omega)
    obtain ⟨gb, cb, hbv, -, -, hc1, hc2⟩ := Fr.Own.at hOO hDne
    have hBF : Fr.Bs w4.heap.size w4 bv D := Fr.Own.bs hOO
    subst hbv
    have hdrop : ∀ W, Below w4.heap.size w4 W → Fr.Bs w4.heap.size W (.slice (some ⟨gb, P, none⟩) (D.length - P) (cb - P)) (D.drop P) := fun W hb => by
      have := (hBF.below hb).drop P (by omega)
      rw [if_neg (by omega), Nat.zero_add] at this
      exact this
    have hT4 := hT.new b4
    have kx : ∀ W, Below w4.heap.size w4 W → Calls Tryz.prog 65 #[.slice (some ⟨gb, P, none⟩) (D.length - P) (cb - P)] W fun e w' => ∃ va vn vc, e = .returned (.tuple #[.agg #[.int .u64 (idx : Int), .slice va vn vc], .int .i64 ((recB r).length : Int), .bool true]) ∧ Below w4.heap.size w4 w' ∧ Below W.heap.size W w' ∧ (∀ w9, Below w'.heap.size w' w9 → Hid (T (.returned (.tuple #[.slice va vn vc, .bool true])) w9)) := fun W hb => by
      have := Fr.one_of w4.heap.size _ _ W (hT4.new hb).1 (hdrop W hb) (fun x hx => hb8 x (List.mem_of_mem_drop hx)) hb.size (by rw [List.length_drop]; omega)
      rw [hone] at this
      refine this.mono ?_
      rintro e w' ⟨h1, v, h2, h3, h4⟩
      have h3' : Fr.Bs w'.heap.size w' v r.data := h3
      obtain ⟨va, vc, h5, -⟩ := h3
      subst h5
      refine ⟨va, _, vc, by rw [h2, hri], hb.trans (h1.mono hb.size), h1, fun w9 h9 => hE _ w9 hsm hrm hri ((h3'.below h9).mono h9.size).up (b4.trans ((hb.trans ((h1.trans (h9.mono h1.size)).mono hb.size)).mono b4.size))⟩
    have ke := kend w4 b4
    have hS4 : ∀ W, Below w4.heap.size w4 W → W.cell? ⟨q, 0, none⟩ = some (.pointer (some ⟨dq, 0, none⟩)) ∧ W.cell? ⟨q, 1, none⟩ = some (.slice (some ⟨g, 0, none⟩) sg.length sc) ∧ W.cell? ⟨g, i * 2, none⟩ = some (.int .i64 (s.num : Int)) ∧ W.cell? ⟨g, i * 2 + 1, none⟩ = some (.slice pa RL pc) := fun W hb => hS W (b4.trans (hb.mono b4.size))
    have hmin : min (P : Int) (D.length : Int) = (P : Int) := by omega
    have hsn : ¬ (P : Int) < 0 := by omega
    have hsm1 : (P : Int) ≤ (D.length : Int) := by omega
    have hsm2 : P ≤ D.length := by omega
    have hdc : (D.length : Int) ≤ (cb : Int) := by omega
    have hcm : (cb : Int) ≤ 9223372036854775807 := by unfold maxLen at hc2; omega
    clear hS hO hOO hBF hdrop hone hE kend
    go_wp2_with fail
    refine ke.mono ?_
    rintro e w5 ⟨rfl, b5⟩
    have kx5 := kx w5 b5
    clear ke kx
    go_wp2_with fail
    refine kx5.mono ?_
    rintro e w6 ⟨va, vn, vc, rfl, b6, -, hfin⟩
    have hf0 := hfin _ ((Below.refl w6.heap.size w6).alloc (Nat.le_refl _) (.cells #[.int .u64 (idx : Int), .slice va vn vc] 44))
    clear kx5 hS4 hfin
    go_wp2 <;> first | exact hf0.out | (go_ret2; exact hf0.out)
  · have hfin := E0 w2 hno b2
    clear E0 E1 kname kread
    go_wp2 <;> first | exact hfin.out | (go_ret2; exact hfin.out)
end Go.Proofs.YtljfhafmedngnaaGreatDoor

/- A disk that nobody made, and a log that nobody opened: what is told of them. -/
namespace Go.Proofs.YtljfhafmedngnaaGreatDoor
open Go.RowKit WalMath DiskMath
set_option maxRecDepth 100000
set_option linter.unusedSimpArgs false
set_option linter.unusedVariables false

/-- None, or one without a map. -/
def NoDisk (w : World) (d : Value) : Prop := d = .pointer none ∨ ∃ q, d = .pointer (some ⟨q, 0, none⟩) ∧ w.cell? ⟨q, 0, none⟩ = some (.map none)

theorem given_no {w : World} {d : Value} (h : NoDisk w d) : Calls Tryz.prog 48 #[d] w fun e w' => e = .returned (.bool false) ∧ w' = w := by
  rcases h with rfl | ⟨q, rfl, hc⟩
  · go_enter Tryz.func48, Tryz.ntmps48
    go_wp2
    go_ret
    exact ⟨rfl, rfl⟩
  · have hne : ∀ w', (binOp .neq 60 (.map none) (.map none)).run Tryz.prog w' = .ok (.bool false) w' := fun w' => run_neq_map_nil w' 60 9 92 none Tryz.underlying60
    go_enter Tryz.func48, Tryz.ntmps48
    go_wp2
    go_ret
    exact ⟨rfl, rfl⟩

theorem find_no {w : World} {d : Value} (n : ByteArray) (h : NoDisk w d) : Calls Tryz.prog 75 #[d, .string n] w fun e w' => e = .returned (.tuple #[.pointer none, .int .i64 1]) ∧ w' = w := by
  have hg := given_no h
  clear h
  go_enter Tryz.func75, Tryz.ntmps75
  go_wp2_with fail
  refine hg.mono ?_
  rintro e w1 ⟨rfl, hw1⟩
  rw [hw1]
  clear hw1 w1 hg
  go_wp2
  go_ret2
  exact ⟨rfl, rfl⟩

theorem sync_no {w : World} {d : Value} (n : ByteArray) (h : NoDisk w d) : Calls Tryz.prog 36 #[d, .string n] w fun e w' => e = .returned (.int .i64 1) ∧ w' = w := by
  have hg := find_no n h
  clear h
  go_enter Tryz.func36, Tryz.ntmps36
  go_wp2_with fail
  refine hg.mono ?_
  rintro e w1 ⟨rfl, hw1⟩
  rw [hw1]
  clear hw1 w1 hg
  go_wp2
  go_ret
  exact ⟨rfl, rfl⟩


theorem wgiven_no {w : World} {d : Value} (h : NoDisk w d) : Calls Tryz.prog 31 #[d] w fun e w' => e = .returned (.bool false) ∧ w' = w := by
  have hs := sync_no ⟨#[]⟩ h
  clear h
  go_enter Tryz.func31, Tryz.ntmps31
  go_wp2_with fail
  refine hs.mono ?_
  rintro e w1 ⟨rfl, hw1⟩
  rw [hw1]
  clear hw1 w1 hs
  go_wp2
  go_ret
  exact ⟨rfl, rfl⟩

theorem open_no {w : World} {d : Value} (h : NoDisk w d) : Calls Tryz.prog 8 #[d] w fun e w' => e = .returned (.tuple #[.pointer none, .int .i64 1]) ∧ w' = w := by
  have hs := wgiven_no h
  clear h
  go_enter Tryz.func8, Tryz.ntmps8
  go_wp2_with fail
  refine hs.mono ?_
  rintro e w1 ⟨rfl, hw1⟩
  rw [hw1]
  clear hw1 w1 hs
  go_wp2
  go_ret2
  exact ⟨rfl, rfl⟩

/-- None, or one without a disk. -/
def NoWal (w : World) (v : Value) : Prop := v = .pointer none ∨ ∃ q, v = .pointer (some ⟨q, 0, none⟩) ∧ w.cell? ⟨q, 0, none⟩ = some (.pointer none)
theorem NoWal.below {w w' : World} {v : Value} (h : NoWal w v) (hb : Below w.heap.size w w') : NoWal w' v := by
  rcases h with rfl | ⟨q, rfl, hc⟩
  · exact .inl rfl
  · exact .inr ⟨q, rfl, (hb.cell (p := ⟨q, 0, none⟩) (World.block_lt_of_cell? _ _ hc)).trans hc⟩

theorem awake_no {w : World} {v : Value} (h : NoWal w v) : Calls Tryz.prog 33 #[v] w fun e w' => e = .returned (.bool false) ∧ w' = w := by
  rcases h with rfl | ⟨q, rfl, hc⟩
  · go_enter Tryz.func33, Tryz.ntmps33
    go_wp2
    go_ret
    exact ⟨rfl, rfl⟩
  · go_enter Tryz.func33, Tryz.ntmps33
    go_wp2
    go_ret
    exact ⟨rfl, rfl⟩

theorem wsync_no {w : World} {v : Value} (h : NoWal w v) : Calls Tryz.prog 11 #[v] w fun e w' => e = .returned (.tuple #[]) ∧ Below w.heap.size w w' := by
  have ha := awake_no h
  clear h
  go_enter Tryz.func11, Tryz.ntmps11
  go_wp2_with fail
  refine ha.mono ?_
  rintro e w1 ⟨rfl, hw1⟩
  rw [hw1]
  clear hw1 w1 ha
  go_wp2
  go_end0
  exact ⟨rfl, Below.refl _ _⟩

theorem wcut_no {w : World} {v : Value} (x : Int) (h : NoWal w v) : Calls Tryz.prog 13 #[v, .int .u64 x] w fun e w' => e = .returned (.int .i64 1) ∧ Below w.heap.size w w' := by
  have ha := awake_no h
  clear h
  go_enter Tryz.func13, Tryz.ntmps13
  go_wp2_with fail
  refine ha.mono ?_
  rintro e w1 ⟨rfl, hw1⟩
  rw [hw1]
  clear hw1 w1 ha
  go_wp2
  go_ret
  exact ⟨rfl, Below.refl _ _⟩

theorem wcompact_no {w : World} {v : Value} (x : Int) (h : NoWal w v) : Calls Tryz.prog 15 #[v, .int .u64 x] w fun e w' => e = .returned (.int .i64 1) ∧ Below w.heap.size w w' := by
  have ha := awake_no h
  clear h
  go_enter Tryz.func15, Tryz.ntmps15
  go_wp2_with fail
  refine ha.mono ?_
  rintro e w1 ⟨rfl, hw1⟩
  rw [hw1]
  clear hw1 w1 ha
  go_wp2
  go_ret
  exact ⟨rfl, Below.refl _ _⟩

theorem wfirst_no {w : World} {v : Value} (h : NoWal w v) : Calls Tryz.prog 30 #[v] w fun e w' => e = .returned (.int .u64 0) ∧ Below w.heap.size w w' := by
  have ha := awake_no h
  clear h
  go_enter Tryz.func30, Tryz.ntmps30
  go_wp2_with fail
  refine ha.mono ?_
  rintro e w1 ⟨rfl, hw1⟩
  rw [hw1]
  clear hw1 w1 ha
  go_wp2
  go_ret
  exact ⟨rfl, Below.refl _ _⟩

theorem wlast_no {w : World} {v : Value} (h : NoWal w v) : Calls Tryz.prog 10 #[v] w fun e w' => e = .returned (.int .u64 0) ∧ Below w.heap.size w w' := by
  have hb : Below w.heap.size w (w.alloc (.cells #[.int .u64 0] 31)) := (Below.refl _ _).alloc (Nat.le_refl _) _
  have hbk0 := heap_alloc_new w (.cells #[.int .u64 0] 31)
  have ha := awake_no (h.below hb)
  clear h
  go_enter Tryz.func10, Tryz.ntmps10
  go_wp2_with fail
  refine ha.mono ?_
  rintro e w1 ⟨rfl, hw1⟩
  rw [hw1]
  clear hw1 w1 ha
  go_wp2
  refine bodyPost_ret (results_u64 rfl _ _ w.heap.size _ rfl hbk0) rfl ?_
  exact ⟨rfl, hb⟩

theorem wget_no {w : World} {v : Value} (x : Int) (h : NoWal w v) : Calls Tryz.prog 24 #[v, .int .u64 x] w fun e w' => e = .returned (.tuple #[.slice none 0 0, .bool false]) ∧ Below w.heap.size w w' := by
  have ha := awake_no h
  clear h
  go_enter Tryz.func24, Tryz.ntmps24
  go_wp2_with fail
  refine ha.mono ?_
  rintro e w1 ⟨rfl, hw1⟩
  rw [hw1]
  clear hw1 w1 ha
  go_wp2
  go_ret2
  exact ⟨rfl, Below.refl _ _⟩

theorem wappend_no {w : World} {v : Value} (x : Int) (a : Option Addr) (n c : Nat) (h : NoWal w v) : Calls Tryz.prog 20 #[v, .agg #[.int .u64 x, .slice a n c]] w fun e w' => e = .returned (.int .i64 1) ∧ Below w.heap.size w w' := by
  have hb : Below w.heap.size w (w.alloc (.cells #[.int .u64 x, .slice a n c] 44)) := (Below.refl _ _).alloc (Nat.le_refl _) _
  have ha := awake_no (h.below hb)
  clear h
  go_enter Tryz.func20, Tryz.ntmps20
  go_wp2_with fail
  refine ha.mono ?_
  rintro e w1 ⟨rfl, hw1⟩
  rw [hw1]
  clear hw1 w1 ha
  go_wp2
  go_ret
  exact ⟨rfl, hb⟩

end Go.Proofs.YtljfhafmedngnaaGreatDoor


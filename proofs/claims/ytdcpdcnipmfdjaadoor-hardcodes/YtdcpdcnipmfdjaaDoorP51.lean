import Derived.Test.YtdcpdcnipmfdjaaDoorP47
import Derived.Test.YtdcpdcnipmfdjaaDoorP50
/- The contracts of the program's Save and Load. -/
namespace Go.Proofs.YtdcpdcnipmfdjaaDoor
open Go.RowKit DiskMath
set_option maxRecDepth 100000
set_option linter.unusedSimpArgs false
set_option linter.unusedVariables false

/-- An act behind others. -/
theorem Leaves.act {S : Nat → Prop} {w w1 : World} {d : Value} {fs : Files} {f : Nat} {args : Array Value} {R : Files × Nat} (h : Leaves S w d fs w1) (k : ∀ S1, Dk S1 w1 d fs → Calls Tryd.prog f args w1 (Did Dk S1 d w1 R)) :
    Calls Tryd.prog f args w1 fun e w2 => e = .returned (.int .i64 (R.2 : Int)) ∧ Leaves S w d R.1 w2 := by
  obtain ⟨S1, h1, h2, h3⟩ := h
  refine (k S1 h1).mono ?_
  rintro e w2 ⟨he, hl⟩
  exact ⟨he, Leaves.step h2 h3 hl⟩
theorem Leaves.then {S : Nat → Prop} {w w1 w2 : World} {d : Value} {fs : Files} (h : Leaves S w d fs w1) (hb : Below w1.heap.size w1 w2) : Leaves S w d fs w2 := by
  obtain ⟨S1, h1, h2, h3⟩ := h
  exact Leaves.step h2 h3 (Leaves.below h1 hb)
theorem Leaves.after {S : Nat → Prop} {w w1 w2 : World} {d : Value} {fs : Files} (hb : Below w.heap.size w w1) (h : Leaves S w1 d fs w2) : Leaves S w d fs w2 := by
  obtain ⟨S1, h1, h2, h3⟩ := h
  exact ⟨S1, h1, h2.after hb, Kept.after hb h3⟩
theorem Leaves.tb {S : Nat → Prop} {w w1 : World} {d : Value} {fs : Files} (h : Leaves S w d fs w1) (hT : Tb w) (hS2 : ∀ b, S b → 2 ≤ b) : Tb w1 := by
  obtain ⟨S1, h1, h2, h3⟩ := h
  exact hT.below (h3.below (n := 2) hT.two hS2) (Nat.le_refl _)

set_option maxHeartbeats 1000000 in
theorem save_arg {S : Nat → Prop} {w : World} {d : Value} {fs : Files} (g t v c : Int) (hD : Dk S w d fs) (h : ¬ (0 ≤ v ∧ v ≤ 7)) :
    Calls Tryd.prog 12 #[d, .int .i64 g, .agg #[.int .u64 t, .int .i64 v, .int .u64 c]] w (Did Dk S d w (fs, 1)) := by
  have hb := (Below.refl w.heap.size w).alloc (Nat.le_refl _) (.cells #[.int .u64 t, .int .i64 v, .int .u64 c] 24)
  have k := Fr.encode_no t c v (w.alloc (.cells #[.int .u64 t, .int .i64 v, .int .u64 c] 24)) h
  have hfin : ∀ w1, Below w.heap.size w w1 → Hid (Did Dk S d w (fs, 1) (.returned (.int .i64 1)) w1) := fun w1 hb1 => ⟨rfl, Leaves.below hD hb1⟩
  obtain ⟨q, rfl⟩ := hD.shape
  generalize Did Dk S (.pointer (some ⟨q, 0, none⟩)) w (fs, 1) = T at *
  clear h hD
  go_enter Tryd.func12, Tryd.ntmps12
  go_wp2_with fail
  refine k.mono ?_
  rintro e w1 ⟨rfl, hb1⟩
  have E := hfin w1 (hb.trans (hb1.mono hb.size))
  clear hfin k
  go_wp2 <;> first | exact E.out | (go_ret; exact E.out)

set_option maxHeartbeats 1000000 in
theorem save_group {S : Nat → Prop} {w : World} {d : Value} {fs : Files} (g : Int) (t v c : Nat) (hT : Tb w) (hD : Dk S w d fs) (hg : ¬ (0 ≤ g ∧ g ≤ 999)) (ht : t < 18446744073709551616) (hv : v ≤ 7) (hc : c < 18446744073709551616) :
    Calls Tryd.prog 12 #[d, .int .i64 g, .agg #[.int .u64 (t : Int), .int .i64 (v : Int), .int .u64 (c : Int)]] w (Did Dk S d w (fs, 1)) := by
  have hb := (Below.refl w.heap.size w).alloc (Nat.le_refl _) (.cells #[.int .u64 (t : Int), .int .i64 (v : Int), .int .u64 (c : Int)] 24)
  have k := Fr.encode_of t v c (w.alloc (.cells #[.int .u64 (t : Int), .int .i64 (v : Int), .int .u64 (c : Int)] 24)) (hT.new hb).1 ht hv hc
  have kg : ∀ w1, Below w.heap.size w w1 → Calls Tryd.prog 25 #[d] w1 fun e w' => e = .returned (.bool true) ∧ Hid (Did Dk S d w (fs, 1) (.returned (.int .i64 1)) w') := fun w1 hb1 => (hgiven_of (diskOf.below hD hb1)).mono fun e w' h => ⟨h.1, rfl, Leaves.after hb1 h.2⟩
  have kr := fun w' => group_no g w' hg
  obtain ⟨q, rfl⟩ := hD.shape
  generalize Did Dk S (.pointer (some ⟨q, 0, none⟩)) w (fs, 1) = T at *
  clear hD hT
  go_enter Tryd.func12, Tryd.ntmps12
  go_wp2_with fail
  refine k.mono ?_
  rintro e w1 ⟨a, n, cp, rfl, hO, hb1⟩
  have kg1 := kg w1 (hb.trans (hb1.mono hb.size))
  clear kg k
  go_wp2_with fail
  refine kg1.mono ?_
  rintro e w2 ⟨rfl, E⟩
  have kr2 := kr w2
  clear kr kg1
  go_wp2_with fail
  refine kr2.mono ?_
  rintro e w3 ⟨rfl, hw3⟩
  rw [hw3]
  clear hw3 kr2
  go_wp2 <;> first | exact E.out | (go_ret; exact E.out)

set_option maxHeartbeats 4000000 in
theorem save_of {S : Nat → Prop} {w : World} {d : Value} {fs : Files} (g t v c : Nat) (hT : Tb w) (hD : Dk S w d fs) (hS2 : ∀ b, S b → 2 ≤ b) (hg : g < 1000) (ht : t < 18446744073709551616) (hv : v ≤ 7) (hc : c < 18446744073709551616) :
    Calls Tryd.prog 12 #[d, .int .i64 (g : Int), .agg #[.int .u64 (t : Int), .int .i64 (v : Int), .int .u64 (c : Int)]] w (Did Dk S d w (saveF fs g (Fr.hdB t v c))) := by
  have hb := (Below.refl w.heap.size w).alloc (Nat.le_refl _) (.cells #[.int .u64 (t : Int), .int .i64 (v : Int), .int .u64 (c : Int)] 24)
  have k := Fr.encode_of t v c (w.alloc (.cells #[.int .u64 (t : Int), .int .i64 (v : Int), .int .u64 (c : Int)] 24)) (hT.new hb).1 ht hv hc
  have hsz : (w.alloc (.cells #[.int .u64 (t : Int), .int .i64 (v : Int), .int .u64 (c : Int)] 24)).heap.size = w.heap.size + 1 := by simp
  rw [hsz] at k
  have hSl := diskOf.lt hD
  have hnm : (nName g).size ≤ maxLen := by have := nName_size hg; unfold maxLen; omega
  have hgm : (gName g).size ≤ maxLen := by have := gName_size hg; unfold maxLen; omega
  have hg8 := gName_size hg
  have hby := Fr.hdB_bytes t v c
  have hbl := Fr.hdB_len t v c ht hv hc
  have HN : Hid (gName g ++ ⟨#[46, 110, 101, 119]⟩ = nName g) := rfl
  generalize hB : Fr.hdB t v c = B at *
  -- what each step tells, from the world behind Encode on
  have kgv : ∀ w1, Below w.heap.size w w1 → Calls Tryd.prog 25 #[d] w1 fun e w' => e = .returned (.bool true) ∧ Leaves S w1 d fs w' := fun w1 hb1 => hgiven_of (diskOf.below hD hb1)
  have kgr := fun w' => group_yes (g : Int) w' (by omega) (by omega)
  have knm : ∀ w1 w2 fs2, Below w.heap.size w w1 → Leaves S w1 d fs2 w2 → Calls Tryd.prog 28 #[.int .i64 (g : Int)] w2 fun e w' => e = .returned (.string (gName g)) ∧ Leaves S w1 d fs2 w' := fun w1 w2 fs2 hb1 hL => (hname_of g w2 (hL.tb (hT.new hb1) hS2) hg).mono fun e w' h => ⟨h.1, hL.then h.2⟩
  have kct : ∀ w1 w2, Leaves S w1 d fs w2 → Calls Tryd.prog 29 #[d, .string (nName g), .int .i64 0] w2 fun e w' => e = .returned (.int .i64 ((dCut fs (nName g) 0).2 : Int)) ∧ Leaves S w1 d (dCut fs (nName g) 0).1 w' := fun w1 w2 hL => hL.act fun S1 h1 => diskOf.cut (nName g) 0 hnm h1
  have kap : ∀ w1 w2 fs2 bv, Below (w.heap.size + 1) (w.alloc (.cells #[.int .u64 (t : Int), .int .i64 (v : Int), .int .u64 (c : Int)] 24)) w1 → Fr.Own (w.heap.size + 1) w1 bv B → Leaves S w1 d fs2 w2 → Calls Tryd.prog 30 #[d, .string (nName g), bv] w2 fun e w' => e = .returned (.int .i64 ((dAppend fs2 (nName g) B).2 : Int)) ∧ Leaves S w1 d (dAppend fs2 (nName g) B).1 w' := fun w1 w2 fs2 bv hb1 hO hL => by
    letI := keepAll
    refine hL.act fun S1 h1 => diskOf.append (nName g) bv B h1 ?_ hby (by omega)
    obtain ⟨S2, g1, g2, g3⟩ := hL
    have hO1 : Own (w.heap.size + 1) w1 bv B := hO
    have hO2 : Own (w.heap.size + 1) w2 bv B := hO1.same fun j hj => g3.block j (hO1.lt hj).2 fun hs => by
      have h5 := (hO1.lt hj).1
      have h6 := hSl j hs
      omega
    exact hO2.bs (Nat.zero_le _)
  have ksy : ∀ w1 w2 fs2, Leaves S w1 d fs2 w2 → Calls Tryd.prog 31 #[d, .string (nName g)] w2 fun e w' => e = .returned (.int .i64 ((dSync fs2 (nName g)).2 : Int)) ∧ Leaves S w1 d (dSync fs2 (nName g)).1 w' := fun w1 w2 fs2 hL => hL.act fun S1 h1 => diskOf.sync (nName g) hnm h1
  have krn : ∀ w1 w2 fs2, Leaves S w1 d fs2 w2 → Calls Tryd.prog 32 #[d, .string (nName g), .string (gName g)] w2 fun e w' => e = .returned (.int .i64 ((dRename fs2 (nName g) (gName g)).2 : Int)) ∧ Leaves S w1 d (dRename fs2 (nName g) (gName g)).1 w' := fun w1 w2 fs2 hL => hL.act fun S1 h1 => diskOf.rename (nName g) (gName g) hnm h1
  have hk9 : ¬ 9223372036854775807 < (gName g).size + 4 := by omega
  have hR : Hid (saveF fs g B = if (dAppend (dCut fs (nName g) 0).1 (nName g) B).2 = 0 then ((dRename (dSync (dAppend (dCut fs (nName g) 0).1 (nName g) B).1 (nName g)).1 (nName g) (gName g)).1, 0) else ((dCut fs (nName g) 0).1, 2)) := rfl
  have fin : ∀ w1 w2 fs2 (n : Nat), Below w.heap.size w w1 → Leaves S w1 d fs2 w2 → saveF fs g B = (fs2, n) → Hid (Did Dk S d w (saveF fs g B) (.returned (.int .i64 (n : Int))) w2) := fun w1 w2 fs2 n hb1 hL he => by
    rw [he]
    exact ⟨rfl, Leaves.after hb1 hL⟩
  obtain ⟨q, rfl⟩ := hD.shape
  generalize hTd : Did Dk S (.pointer (some ⟨q, 0, none⟩)) w (saveF fs g B) = T at *
  generalize gName g = G at *
  generalize nName g = N at *
  clear hTd hT hby hbl hB hSl hD
  go_enter Tryd.func12, Tryd.ntmps12
  go_wp2_with fail
  refine k.mono ?_
  rintro e w1 ⟨a, n, cp, rfl, hO, hb1⟩
  have hbw1 : Below w.heap.size w w1 := hb.trans (hb1.mono (by omega))
  have kg1 := kgv w1 hbw1
  clear kgv k
  go_wp2_with fail
  refine kg1.mono ?_
  rintro e w2 ⟨rfl, hL2⟩
  have kr2 := kgr w2
  clear kgr kg1
  go_wp2_with fail
  refine kr2.mono ?_
  rintro e w2' ⟨rfl, hw2⟩
  rw [hw2]
  clear hw2 w2' kr2
  have kn := knm w1 w2 fs hbw1 hL2
  clear hL2
  go_wp2_with fail
  refine kn.mono ?_
  rintro e w3 ⟨rfl, hL3⟩
  have kc := kct w1 w3 hL3
  rw [← HN.out] at kc
  clear kn kct
  go_wp2_with fail
  refine kc.mono ?_
  rintro e w4 ⟨rfl, hL4⟩
  rw [HN.out] at hL4
  have ka := kap w1 w4 _ _ hb1 hO hL4
  generalize hf1 : (dCut fs N 0).1 = fs1 at *
  clear kc kap hO hL3
  generalize hRa : dAppend fs1 N B = R at *
  rw [← HN.out] at ka
  by_cases h0 : R.2 = 0
  · rw [h0] at ka
    rw [if_pos h0] at hR
    go_wp2_with fail
    refine ka.mono ?_
    rintro e w5 ⟨rfl, hL5⟩
    have ks := ksy w1 w5 _ hL5
    rw [← HN.out] at ks
    clear ka hL4
    go_wp2_with fail
    refine ks.mono ?_
    rintro e w6 ⟨rfl, hL6⟩
    rw [HN.out] at hL6
    have kn2 := knm w1 w6 _ hbw1 hL6
    clear ks hL5 knm ksy
    go_wp2_with fail
    refine kn2.mono ?_
    rintro e w7 ⟨rfl, hL7⟩
    have kr := krn w1 w7 _ hL7
    rw [← HN.out] at kr
    clear kn2 krn hL6
    go_wp2_with fail
    refine kr.mono ?_
    rintro e w8 ⟨rfl, hL8⟩
    rw [HN.out] at hL8
    have E := fin w1 w8 _ 0 hbw1 hL8 hR.out
    clear kr fin hL7 hL8 hR
    go_wp2 <;> first | exact E.out | (go_ret; exact E.out)
  · have hd : R.1 = fs1 := by
      rw [← hRa]
      exact append_err (by rw [hRa]; exact h0)
    rw [if_neg h0] at hR
    have h0i : ¬ (R.2 : Int) = 0 := by omega
    have h0j : ((R.2 : Int) != 0) = true := by simp; omega
    generalize R.2 = r2 at *
    go_wp2_with fail
    refine ka.mono ?_
    rintro e w5 ⟨rfl, hL5⟩
    rw [hd] at hL5
    have E := fin w1 w5 _ 2 hbw1 hL5 hR.out
    clear ka fin hL5 hR hL4 knm ksy krn
    go_wp2 <;> first | exact E.out | (go_ret; exact E.out)
end Go.Proofs.YtdcpdcnipmfdjaaDoor

/- The contract of the program's Load. -/
namespace Go.Proofs.YtdcpdcnipmfdjaaDoor
open Go.RowKit DiskMath
set_option maxRecDepth 100000
set_option linter.unusedSimpArgs false
set_option linter.unusedVariables false

/-- What Load tells. -/
def loadV (fs : Files) (g : Nat) : Value :=
  match get fs (gName g) with
  | none => .tuple #[.agg #[.int .u64 0, .int .i64 0, .int .u64 0], .int .i64 0]
  | some f => Fr.decV (Fr.hdDec f.data)
theorem loadV_shape (fs : Files) (g : Nat) : ∃ (t v c e : Int), loadV fs g = .tuple #[.agg #[.int .u64 t, .int .i64 v, .int .u64 c], .int .i64 e] := by
  unfold loadV Fr.decV
  split
  · exact ⟨_, _, _, _, rfl⟩
  · split
    · exact ⟨_, _, _, _, rfl⟩
    · exact ⟨_, _, _, _, rfl⟩

theorem Kept.tb {S : Nat → Prop} {w w1 : World} (h : Kept S w w1) (hT : Tb w) (hS2 : ∀ b, S b → 2 ≤ b) : Tb w1 := hT.below (h.below (n := 2) hT.two hS2) (Nat.le_refl _)

/-- What is stored into a box of the call's own leaves the disk. -/
theorem box_kept {S S1 : Nat → Prop} {w w1 : World} {d : Value} {fs : Files} {n : Nat} (h1 : Dk S1 w1 d fs) (h2 : Step S S1 w) (h3 : Kept S w w1) (hn : w.heap.size ≤ n) (hno : ¬ S1 n) (x y z : Value) : Leaves S w d fs (((w1.setCell ⟨n, 0, none⟩ x).setCell ⟨n, 1, none⟩ y).setCell ⟨n, 2, none⟩ z) := by
  have hblk : ∀ k, k ≠ n → (((w1.setCell ⟨n, 0, none⟩ x).setCell ⟨n, 1, none⟩ y).setCell ⟨n, 2, none⟩ z).heap[k]? = w1.heap[k]? := fun k hk => by
    rw [Below.heap_setCell _ _ _ _ hk, Below.heap_setCell _ _ _ _ hk, Below.heap_setCell _ _ _ _ hk]
  have hsz : (((w1.setCell ⟨n, 0, none⟩ x).setCell ⟨n, 1, none⟩ y).setCell ⟨n, 2, none⟩ z).heap.size = w1.heap.size := by simp [World.setCell]
  refine ⟨S1, diskOf.kept h1 (by rw [hsz]; exact Nat.le_refl _) fun b hb => hblk b (fun e => hno (e ▸ hb)), h2, ⟨h3.os, h3.tape, h3.output, by rw [hsz]; exact h3.size, fun k hk hs => ?_⟩⟩
  rw [hblk k (by omega)]
  exact h3.block k hk hs

set_option maxHeartbeats 2000000 in
theorem load_of {S : Nat → Prop} {w : World} {d : Value} {fs : Files} (g : Nat) (hT : Tb w) (hD : Dk S w d fs) (hS2 : ∀ b, S b → 2 ≤ b) (hg : g < 1000) :
    Calls Tryd.prog 11 #[d, .int .i64 (g : Int)] w fun e w' => e = .returned (loadV fs g) ∧ Leaves S w d fs w' := by
  letI := keepAll
  have hb0 := (Below.refl w.heap.size w).alloc (Nat.le_refl _) (.cells #[.int .u64 0, .int .i64 0, .int .u64 0] 24)
  have hbk0 := heap_alloc_new w (.cells #[.int .u64 0, .int .i64 0, .int .u64 0] 24)
  have hsz0 : (w.alloc (.cells #[.int .u64 0, .int .i64 0, .int .u64 0] 24)).heap.size = w.heap.size + 1 := by simp
  have hSl := diskOf.lt hD
  have hsd := diskOf.sound hD
  have hby := hD.byte
  have hgm : (gName g).size ≤ maxLen := by have := gName_size hg; unfold maxLen; omega
  have kgv := hgiven_of (diskOf.below hD hb0)
  have kgr := fun w' => group_yes (g : Int) w' (by omega) (by omega)
  -- the box stays as it is, apart from the disk
  have hbox : ∀ W, Leaves S (w.alloc (.cells #[.int .u64 0, .int .i64 0, .int .u64 0] 24)) d fs W → W.cell? ⟨w.heap.size, 0, none⟩ = some (.int .u64 0) ∧ W.cell? ⟨w.heap.size, 1, none⟩ = some (.int .i64 0) ∧ W.cell? ⟨w.heap.size, 2, none⟩ = some (.int .u64 0) ∧ W.frozen? ⟨w.heap.size, 0, none⟩ = false ∧ W.frozen? ⟨w.heap.size, 1, none⟩ = false ∧ W.frozen? ⟨w.heap.size, 2, none⟩ = false ∧ Hid (W.heap[w.heap.size]? = some (.cells #[.int .u64 0, .int .i64 0, .int .u64 0] 24 (0, 0))) ∧ ∀ x y z, Hid (Leaves S w d fs (((W.setCell ⟨w.heap.size, 0, none⟩ x).setCell ⟨w.heap.size, 1, none⟩ y).setCell ⟨w.heap.size, 2, none⟩ z)) := fun W hL => by
    obtain ⟨S1, h1, h2, h3⟩ := id hL
    have hns : ¬ S w.heap.size := fun hs => by have := hSl _ hs; omega
    have h := (h3.block w.heap.size (by rw [hsz0]; omega) hns).trans hbk0
    refine ⟨by rw [cells_of_block h]; rfl, by rw [cells_of_block h]; rfl, by rw [cells_of_block h]; rfl, Fr.frozen_of h 0, Fr.frozen_of h 1, Fr.frozen_of h 2, h, fun x y z => ?_⟩
    have h2' : Step S S1 w := h2.after hb0
    have h3' : Kept S w W := Kept.after hb0 h3
    have hno : ¬ S1 w.heap.size := fun hs => by
      rcases h2 _ hs with h | h
      · exact hns h
      · rw [hsz0] at h; omega
    exact box_kept h1 h2' h3' (Nat.le_refl _) hno x y z
  have knm : ∀ W, Leaves S (w.alloc (.cells #[.int .u64 0, .int .i64 0, .int .u64 0] 24)) d fs W → Calls Tryd.prog 28 #[.int .i64 (g : Int)] W fun e w' => e = .returned (.string (gName g)) ∧ Leaves S (w.alloc (.cells #[.int .u64 0, .int .i64 0, .int .u64 0] 24)) d fs w' := fun W hL => (hname_of g W (hL.tb (hT.new hb0) hS2) hg).mono fun e w' h => ⟨h.1, hL.then h.2⟩
  have krd : ∀ W, Leaves S (w.alloc (.cells #[.int .u64 0, .int .i64 0, .int .u64 0] 24)) d fs W → Calls Tryd.prog 27 #[d, .string (gName g)] W fun e w' => Leaves S (w.alloc (.cells #[.int .u64 0, .int .i64 0, .int .u64 0] 24)) d fs w' ∧ ((get fs (gName g) = none ∧ ∃ a n c, e = .returned (.tuple #[.slice a n c, .bool false])) ∨ (∃ f a n c, get fs (gName g) = some f ∧ e = .returned (.tuple #[.slice a n c, .bool true]) ∧
      Calls Tryd.prog 9 #[.slice a n c] w' fun e2 w2 => e2 = .returned (Fr.decV (Fr.hdDec f.data)) ∧ Leaves S (w.alloc (.cells #[.int .u64 0, .int .i64 0, .int .u64 0] 24)) d fs w2)) := fun W hL => by
    obtain ⟨S1, h1, h2, h3⟩ := id hL
    refine (dread_of (gName g) hgm h1).mono ?_
    rintro e w' ⟨v, l, rfl, hO, hb, hl⟩
    have hL' := hL.then hb
    refine ⟨hL', ?_⟩
    obtain ⟨a, c, rfl⟩ := hO.shape
    cases hgt : get fs (gName g) with
    | none => exact .inl ⟨rfl, _, _, _, rfl⟩
    | some f =>
      rw [hgt] at hl
      obtain rfl : l = f.data := hl
      have hf := sound_get hsd hgt
      refine .inr ⟨f, _, _, _, rfl, rfl, ?_⟩
      have hOf : Fr.Own W.heap.size w' (.slice a f.data.length c) f.data := hO
      refine (Fr.decode_of w'.heap.size f.data _ w' (hL'.tb (hT.new hb0) hS2).1 hOf.bs (hby f (get_mem hgt)) (Nat.le_refl _) (by omega)).mono fun e2 w2 h => ⟨h.1, hL'.then h.2⟩
  have hlv : ∀ o, get fs (gName g) = o → Hid (loadV fs g = match o with | none => .tuple #[.agg #[.int .u64 0, .int .i64 0, .int .u64 0], .int .i64 0] | some f => Fr.decV (Fr.hdDec f.data)) := fun o h => by subst h; rfl
  obtain ⟨q, rfl⟩ := hD.shape
  generalize loadV fs g = V at *
  generalize gName g = G at *
  generalize hLv : Leaves S (w.alloc (.cells #[.int .u64 0, .int .i64 0, .int .u64 0] 24)) (.pointer (some ⟨q, 0, none⟩)) fs = LV at *
  clear hD hT hsd hby hSl hLv
  go_enter Tryd.func11, Tryd.ntmps11
  go_wp2_with fail
  refine kgv.mono ?_
  rintro e w1 ⟨rfl, hL1⟩
  have kr1 := kgr w1
  clear kgv kgr
  go_wp2_with fail
  refine kr1.mono ?_
  rintro e w1' ⟨rfl, hw1⟩
  rw [hw1]
  clear hw1 w1' kr1
  have kn := knm w1 hL1
  clear knm hL1
  go_wp2_with fail
  refine kn.mono ?_
  rintro e w2 ⟨rfl, hL2⟩
  have kd := krd w2 hL2
  clear krd kn hL2
  go_wp2_with fail
  refine kd.mono ?_
  rintro e w3 ⟨hL3, ⟨hgt, a, n, c, rfl⟩ | ⟨f, a, n, c, hgt, rfl, kdc⟩⟩
  · have hv := hlv none hgt
    obtain ⟨c0, c1, c2, f0, f1, f2, hbk, hfin⟩ := hbox w3 hL3
    clear hlv hgt hbox kd hL3
    go_wp2
    (try simp only [Exit.inBlock, Exit.then])
    refine bodyPost_ret (Fr.results_hd rfl _ _ w.heap.size _ _ _ rfl (Fr.hd_set hbk.out _ _ _)) rfl ?_
    exact ⟨by rw [hv.out]; rfl, (hfin _ _ _).out⟩
  · have hv := hlv (some f) hgt
    clear hlv hgt kd hL3
    have hsh : ∃ (t v c e : Int), Fr.decV (Fr.hdDec f.data) = .tuple #[.agg #[.int .u64 t, .int .i64 v, .int .u64 c], .int .i64 e] := by
      unfold Fr.decV
      split
      · exact ⟨_, _, _, _, rfl⟩
      · exact ⟨_, _, _, _, rfl⟩
    obtain ⟨t, v, cc, ee, hsh⟩ := hsh
    have hvv : Hid (V = .tuple #[.agg #[.int .u64 t, .int .i64 v, .int .u64 cc], .int .i64 ee]) := by rw [← hsh]; exact hv
    rw [hsh] at kdc
    clear hv hsh
    go_wp2_with fail
    refine kdc.mono ?_
    rintro e w4 ⟨rfl, hL4⟩
    obtain ⟨c0, c1, c2, f0, f1, f2, hbk, hfin⟩ := hbox w4 hL4
    clear hbox kdc hL4
    go_wp2
    (try simp only [Exit.inBlock, Exit.then])
    refine bodyPost_ret (Fr.results_hd rfl _ _ w.heap.size _ _ _ rfl (Fr.hd_set hbk.out _ _ _)) rfl ?_
    exact ⟨by rw [hvv.out]; rfl, (hfin _ _ _).out⟩

set_option maxHeartbeats 1000000 in
theorem load_no {S : Nat → Prop} {w : World} {d : Value} {fs : Files} (g : Int) (hD : Dk S w d fs) (hg : ¬ (0 ≤ g ∧ g ≤ 999)) :
    Calls Tryd.prog 11 #[d, .int .i64 g] w fun e w' => e = .returned (.tuple #[.agg #[.int .u64 0, .int .i64 0, .int .u64 0], .int .i64 1]) ∧ Leaves S w d fs w' := by
  have hb0 := (Below.refl w.heap.size w).alloc (Nat.le_refl _) (.cells #[.int .u64 0, .int .i64 0, .int .u64 0] 24)
  have hbk0 := heap_alloc_new w (.cells #[.int .u64 0, .int .i64 0, .int .u64 0] 24)
  have hsz0 : (w.alloc (.cells #[.int .u64 0, .int .i64 0, .int .u64 0] 24)).heap.size = w.heap.size + 1 := by simp
  have hSl := diskOf.lt hD
  have kgv := hgiven_of (diskOf.below hD hb0)
  have kgr := fun w' => group_no g w' hg
  have hbox : ∀ W, Leaves S (w.alloc (.cells #[.int .u64 0, .int .i64 0, .int .u64 0] 24)) d fs W → W.cell? ⟨w.heap.size, 0, none⟩ = some (.int .u64 0) ∧ W.cell? ⟨w.heap.size, 1, none⟩ = some (.int .i64 0) ∧ W.cell? ⟨w.heap.size, 2, none⟩ = some (.int .u64 0) ∧ W.frozen? ⟨w.heap.size, 0, none⟩ = false ∧ W.frozen? ⟨w.heap.size, 1, none⟩ = false ∧ W.frozen? ⟨w.heap.size, 2, none⟩ = false ∧ Hid (W.heap[w.heap.size]? = some (.cells #[.int .u64 0, .int .i64 0, .int .u64 0] 24 (0, 0))) ∧ ∀ x y z, Hid (Leaves S w d fs (((W.setCell ⟨w.heap.size, 0, none⟩ x).setCell ⟨w.heap.size, 1, none⟩ y).setCell ⟨w.heap.size, 2, none⟩ z)) := fun W hL => by
    obtain ⟨S1, h1, h2, h3⟩ := id hL
    have hns : ¬ S w.heap.size := fun hs => by have := hSl _ hs; omega
    have h := (h3.block w.heap.size (by rw [hsz0]; omega) hns).trans hbk0
    refine ⟨by rw [cells_of_block h]; rfl, by rw [cells_of_block h]; rfl, by rw [cells_of_block h]; rfl, Fr.frozen_of h 0, Fr.frozen_of h 1, Fr.frozen_of h 2, h, fun x y z => ?_⟩
    have h2' : Step S S1 w := h2.after hb0
    have h3' : Kept S w W := Kept.after hb0 h3
    have hno : ¬ S1 w.heap.size := fun hs => by
      rcases h2 _ hs with h | h
      · exact hns h
      · rw [hsz0] at h; omega
    exact box_kept h1 h2' h3' (Nat.le_refl _) hno x y z
  obtain ⟨q, rfl⟩ := hD.shape
  generalize hLv : Leaves S (w.alloc (.cells #[.int .u64 0, .int .i64 0, .int .u64 0] 24)) (.pointer (some ⟨q, 0, none⟩)) fs = LV at *
  clear hD hSl hLv
  go_enter Tryd.func11, Tryd.ntmps11
  go_wp2_with fail
  refine kgv.mono ?_
  rintro e w1 ⟨rfl, hL1⟩
  have kr1 := kgr w1
  clear kgv kgr
  go_wp2_with fail
  refine kr1.mono ?_
  rintro e w1' ⟨rfl, hw1⟩
  rw [hw1]
  clear hw1 w1' kr1
  obtain ⟨c0, c1, c2, f0, f1, f2, hbk, hfin⟩ := hbox w1 hL1
  clear hbox hL1
  go_wp2
  (try simp only [Exit.inBlock, Exit.then])
  refine bodyPost_ret (Fr.results_hd rfl _ _ w.heap.size _ _ _ rfl (Fr.hd_set hbk.out _ _ _)) rfl ?_
  exact ⟨rfl, (hfin _ _ _).out⟩
end Go.Proofs.YtdcpdcnipmfdjaaDoor

/- The contract of the law's awake: a state that was saved is there behind a crash. -/
namespace Go.Proofs.YtdcpdcnipmfdjaaDoor
open Go.RowKit DiskMath
set_option maxRecDepth 100000
set_option linter.unusedSimpArgs false
set_option linter.unusedVariables false

theorem aw_save (b : List Nat) (hb : b.length ≤ 65536) : (saveF [] 4 b).2 = 0 := by
  unfold saveF
  rw [if_pos]
  have e : (dCut [] (nName 4) 0).1 = [] := rfl
  rw [e]
  unfold dAppend
  rw [if_neg (by rw [nName_may (by decide)]; simp), get_nil]
  dsimp only
  rw [if_neg (by simp; omega)]
theorem aw_load : loadV (crash (saveF [] 4 (Fr.hdB 3 1 7)).1 []) 4 = .tuple #[.agg #[.int .u64 3, .int .i64 1, .int .u64 7], .int .i64 0] := by
  have h := save_get (fs := []) ⟨trivial, by decide, by simp⟩ (g := 4) (by decide) (b := Fr.hdB 3 1 7) (aw_save _ (by have := Fr.hdB_len 3 1 7 (by decide) (by decide) (by decide); omega))
  have h2 := crash_whole (cuts := []) h rfl
  unfold loadV
  rw [h2]
  dsimp only
  rw [Fr.hdDec_back 3 1 7 (by decide) (by decide) (by decide)]
  rfl

set_option maxHeartbeats 2000000 in
theorem hawake_of (w : World) (hT : Tb w) : Calls Tryd.prog 8 #[] w fun e w' => e = .returned (.bool true) ∧ Below w.heap.size w w' := by
  have h0 := dnew_of w
  have h2w := hT.two
  have ks : ∀ S W d, Below w.heap.size w W → Dk S W d [] → (∀ b, S b → w.heap.size ≤ b) → Calls Tryd.prog 12 #[d, .int .i64 4, .agg #[.int .u64 3, .int .i64 1, .int .u64 7]] W fun e w' => e = .returned (.int .i64 0) ∧ Leaves S W d (saveF [] 4 (Fr.hdB 3 1 7)).1 w' := fun S W d hb hD hS => by
    have := save_of 4 3 1 7 (hT.new hb) hD (fun b hb => Nat.le_trans h2w (hS b hb)) (by decide) (by decide) (by decide) (by decide)
    refine this.mono ?_
    rintro e w' ⟨he, hL⟩
    rw [aw_save _ (by have := Fr.hdB_len 3 1 7 (by decide) (by decide) (by decide); omega)] at he
    exact ⟨he, hL⟩
  have kc : ∀ S W d fs, Dk S W d fs → Calls Tryd.prog 17 #[d, .slice none 0 0] W fun e w' => e = .returned (.tuple #[]) ∧ Leaves S W d (crash fs []) w' := fun S W d fs hD =>
    diskOf.crash (.slice none 0 0) [] hD fun w'' hk => ⟨none, 0, rfl, (fun _ => rfl), fun i c hc => by simp at hc⟩
  have kl : ∀ S W d, Below w.heap.size w W → Dk S W d (crash (saveF [] 4 (Fr.hdB 3 1 7)).1 []) → (∀ b, S b → w.heap.size ≤ b) → Calls Tryd.prog 11 #[d, .int .i64 4] W fun e w' => e = .returned (.tuple #[.agg #[.int .u64 3, .int .i64 1, .int .u64 7], .int .i64 0]) ∧ Leaves S W d (crash (saveF [] 4 (Fr.hdB 3 1 7)).1 []) w' := fun S W d hb hD hS => by
    have := load_of 4 (hT.new hb) hD (fun b hb => Nat.le_trans h2w (hS b hb)) (by decide)
    rw [aw_load] at this
    exact this
  generalize (saveF [] 4 (Fr.hdB 3 1 7)).1 = F at *
  go_enter Tryd.func8, Tryd.ntmps8
  go_wp2_with fail
  refine h0.mono ?_
  rintro e w1 ⟨S1, d, rfl, hD1, hS1, hb1⟩
  obtain ⟨q, rfl⟩ := hD1.shape
  have hbx := (Below.refl w1.heap.size w1).alloc (Nat.le_refl _) (.cells #[.int .u64 3, .int .i64 1, .int .u64 7] 24)
  have hbk := heap_alloc_new w1 (.cells #[.int .u64 3, .int .i64 1, .int .u64 7] 24)
  have hszx : (w1.alloc (.cells #[.int .u64 3, .int .i64 1, .int .u64 7] 24)).heap.size = w1.heap.size + 1 := by simp
  have hn1 : ¬ S1 w1.heap.size := fun h => by have := diskOf.lt hD1 _ h; omega
  have hb1x := hb1.trans (hbx.mono hb1.size)
  have k1 := ks S1 _ _ hb1x (diskOf.below hD1 hbx) hS1
  clear ks h0
  go_wp2_with fail
  refine k1.mono ?_
  rintro e w2 ⟨rfl, S2, hD2, hs2, hk2⟩
  obtain ⟨hS2, hb2⟩ := fresh_step hS1 hb1x.size hs2 hk2
  have hb02 := hb1x.trans hb2
  have hq2 := (hk2.block w1.heap.size (by rw [hszx]; omega) hn1).trans hbk
  have hn2 : ¬ S2 w1.heap.size := fun h => by
    rcases hs2 _ h with h | h
    · exact hn1 h
    · rw [hszx] at h; omega
  have k2 := kc S2 _ _ _ hD2
  clear kc k1 hk2 hs2
  go_wp2_with fail
  refine k2.mono ?_
  rintro e w3 ⟨rfl, S3, hD3, hs3, hk3⟩
  obtain ⟨hS3, hb3⟩ := fresh_step hS2 hb02.size hs3 hk3
  have hb03 := hb02.trans hb3
  have hl2 := (Array.getElem?_eq_some_iff.1 hq2).1
  have hq3 := (hk3.block w1.heap.size hl2 hn2).trans hq2
  have hn3 : ¬ S3 w1.heap.size := fun h => by
    rcases hs3 _ h with h | h
    · exact hn2 h
    · omega
  have k3 := kl S3 _ _ hb03 hD3 hS3
  clear kl k2 hk3 hs3
  go_wp2_with fail
  refine k3.mono ?_
  rintro e w4 ⟨rfl, S4, hD4, hs4, hk4⟩
  obtain ⟨hS4, hb4⟩ := fresh_step hS3 hb03.size hs4 hk4
  have hb04 := hb03.trans hb4
  have hl3 := (Array.getElem?_eq_some_iff.1 hq3).1
  have hq4 := (hk4.block w1.heap.size hl3 hn3).trans hq3
  have hbz := (Below.refl w4.heap.size w4).alloc (Nat.le_refl _) (.cells #[.int .u64 3, .int .i64 1, .int .u64 7] 24)
  have hq5 := (hbz.block w1.heap.size (Array.getElem?_eq_some_iff.1 hq4).1).trans hq4
  have x0 : (w4.alloc (.cells #[.int .u64 3, .int .i64 1, .int .u64 7] 24)).cell? ⟨w1.heap.size, 0, none⟩ = some (.int .u64 3) := by rw [cells_of_block hq5]; rfl
  have x1 : (w4.alloc (.cells #[.int .u64 3, .int .i64 1, .int .u64 7] 24)).cell? ⟨w1.heap.size, 1, none⟩ = some (.int .i64 1) := by rw [cells_of_block hq5]; rfl
  have x2 : (w4.alloc (.cells #[.int .u64 3, .int .i64 1, .int .u64 7] 24)).cell? ⟨w1.heap.size, 2, none⟩ = some (.int .u64 7) := by rw [cells_of_block hq5]; rfl
  have hbf := hb04.trans (hbz.mono hb04.size)
  clear k3 hk4 hs4 hq2 hq3 hq4 hq5 hbk
  go_wp2
  go_ret
  exact ⟨rfl, hbf⟩
end Go.Proofs.YtdcpdcnipmfdjaaDoor


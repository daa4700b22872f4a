import Derived.Test.YtoipjmjhplkibaaGreatDoorP29
import Derived.Test.YtoipjmjhplkibaaGreatDoorP31
import Derived.Test.YtoipjmjhplkibaaGreatDoorP24
import Derived.Test.YtoipjmjhplkibaaGreatDoorP23
import Derived.Test.YtoipjmjhplkibaaGreatDoorP33
/- The contract of the document's own Save. -/
namespace Go.Proofs.YtoipjmjhplkibaaGreatDoor
open Go.RowKit DiskMath
set_option maxRecDepth 100000
set_option linter.unusedSimpArgs false
set_option linter.unusedVariables false

theorem saveF_cases (fs : Files) (g : Nat) (b : List Nat) : (saveF fs g b).2 = 0 ∨ (saveF fs g b).2 = 2 := by
  unfold saveF
  split
  · exact .inl rfl
  · exact .inr rfl

set_option maxHeartbeats 4000000 in
theorem refSave_of [Keep] (fs : Files) (g i t : Nat) (l : List Nat) (ab : Option Addr) (cb : Nat) (lv : Value) (w : World) (hF : Fv w lv fs) (hs : SoundF fs) (hg : g < 1000) (hi : i < 18446744073709551616) (hi0 : i ≠ 0) (ht : t < 18446744073709551616) (hll : l.length ≤ 32768) (hly : ∀ x ∈ l, x < 256) (hBl : Fr.Bs w.heap.size w (.slice ab l.length cb) l) :
    Calls Tryz.prog 28 #[lv, .int .i64 (g : Int), .agg #[.int .u64 (i : Int), .int .u64 (t : Int), .slice ab l.length cb]] w (Told w (saveF fs g (Fr.snB i t l))) := by
  have hb0 := (Below.refl w.heap.size w).alloc (Nat.le_refl _) (.cells #[.int .u64 (i : Int), .int .u64 (t : Int), .slice ab l.length cb] 57)
  have hbk0 := heap_alloc_new w (.cells #[.int .u64 (i : Int), .int .u64 (t : Int), .slice ab l.length cb] 57)
  have hsz0 : (w.alloc (.cells #[.int .u64 (i : Int), .int .u64 (t : Int), .slice ab l.length cb] 57)).heap.size = w.heap.size + 1 := by simp
  have hcs : ∀ W, Below (w.heap.size + 1) (w.alloc (.cells #[.int .u64 (i : Int), .int .u64 (t : Int), .slice ab l.length cb] 57)) W → W.cell? ⟨w.heap.size, 0, none⟩ = some (.int .u64 (i : Int)) ∧ W.cell? ⟨w.heap.size, 1, none⟩ = some (.int .u64 (t : Int)) ∧ W.cell? ⟨w.heap.size, 2, none⟩ = some (.slice ab l.length cb) := fun W hb => by
    have h := (hb.block w.heap.size (by omega)).trans hbk0
    exact ⟨by rw [cells_of_block h]; rfl, by rw [cells_of_block h]; rfl, by rw [cells_of_block h]; rfl⟩
  have y0 := hcs _ (Below.refl _ _)
  obtain ⟨y00, y01, y02⟩ := y0
  have kd := fun W => digits_of g W hg
  have ke := fun W (hW : Below w.heap.size w W) => Fr.refEncode_of i t l w.heap.size ab cb W (hBl.below hW) hW.size hly hi ht hll
  have hkb := hF.1
  have hby := Fr.snB_bytes i t l hly
  have hbl := Fr.snB_len i t l hi ht hll
  have hg1 : ¬ (g : Int) < 0 := by omega
  have hg2 : ¬ (999 : Int) < (g : Int) := by omega
  have hii : ¬ (i : Int) = 0 := by omega
  have hij : ((i : Int) == 0) = false := by simp; omega
  have hll2 : ¬ (32768 : Int) < (l.length : Int) := by omega
  have hl64 := hs.2.1
  have hsz3 := gDig_size hg
  have hgs := gName_size hg
  have hk1 : ¬ 9223372036854775807 < 5 + (gDig g).size := by omega
  have hk2 : ¬ 9223372036854775807 < (gName g).size + 4 := by omega
  have HG : Hid ((⟨#[115, 110, 97, 112, 45]⟩ : ByteArray) ++ gDig g = gName g) := rfl
  have HN : Hid (gName g ++ (⟨#[46, 110, 101, 119]⟩ : ByteArray) = nName g) := rfl
  have hs1 : SoundF (dCut fs (nName g) 0).1 := sound_cut hs _ _
  have kct : ∀ W, Below w.heap.size w W → Calls Tryz.prog 46 #[lv, .string (nName g), .int .i64 0] W (Told W (dCut fs (nName g) 0)) := fun W hb => cut_of fs (nName g) 0 lv W (hF.below hb) (by omega)
  have hR : Hid (saveF fs g (Fr.snB i t l) = if (dAppend (dCut fs (nName g) 0).1 (nName g) (Fr.snB i t l)).2 = 0 then ((dRename (dSync (dAppend (dCut fs (nName g) 0).1 (nName g) (Fr.snB i t l)).1 (nName g)).1 (nName g) (gName g)).1, 0) else ((dCut fs (nName g) 0).1, 2)) := rfl
  have kap : ∀ W lv1 a n p, Below w.heap.size w W → Fv W lv1 (dCut fs (nName g) 0).1 → Fr.Own w.heap.size W (.slice a n p) (Fr.snB i t l) → Calls Tryz.prog 61 #[lv1, .string (nName g), .slice a n p] W (Told W (dAppend (dCut fs (nName g) 0).1 (nName g) (Fr.snB i t l))) := fun W lv1 a n p hb hF1 hO => by
    have hO1 : Own w.heap.size W (.slice a n p) (Fr.snB i t l) := hO
    exact append_of _ (nName g) _ lv1 _ W hF1 (hO1.bs hkb) (by have := hs1.2.1; omega) (by omega) (fun f hf => (hs1.2.2 f hf).2.1)
  have hs2 : SoundF (dAppend (dCut fs (nName g) 0).1 (nName g) (Fr.snB i t l)).1 := sound_append hs1 _ _
  have ksy : ∀ W lv1 fs2, SoundF fs2 → Fv W lv1 fs2 → Calls Tryz.prog 41 #[lv1, .string (nName g)] W (Told W (dSync fs2 (nName g))) := fun W lv1 fs2 h2 hF1 => sync_of fs2 (nName g) lv1 W hF1 (by have := h2.2.1; omega)
  have krn : ∀ W lv1 fs2, SoundF fs2 → Fv W lv1 fs2 → Calls Tryz.prog 81 #[lv1, .string (nName g), .string (gName g)] W (Told W (dRename fs2 (nName g) (gName g))) := fun W lv1 fs2 h2 hF1 => rename_of fs2 (nName g) (gName g) lv1 W hF1 (by have := h2.2.1; omega)
  have fin : ∀ w' a n c' (R : Files × Nat), Fv w' (.slice a n c') R.1 → Below w.heap.size w w' → saveF fs g (Fr.snB i t l) = R → Hid (Told w (saveF fs g (Fr.snB i t l)) (.returned (.tuple #[.slice a n c', .int .i64 (R.2 : Int)])) w') := fun w' a n c' R h1 h2 h3 => by
    rw [h3]
    exact ⟨_, rfl, h1, h2⟩
  have hsync : ∀ fs2 n, SoundF fs2 → SoundF (dSync fs2 n).1 := fun fs2 n h => sound_sync h n
  obtain ⟨al, cl, rfl⟩ := hF.shape
  generalize hTd : Told w (saveF fs g (Fr.snB i t l)) = T at *
  generalize Fr.snB i t l = B at *
  generalize saveF fs g B = SV at *
  generalize gName g = G at *
  generalize nName g = N at *
  generalize gDig g = DG at *
  clear hTd hby hbl hs hBl hly
  go_enter Tryz.func28, Tryz.ntmps28
  have kd1 := kd (w.alloc (.cells #[.int .u64 (i : Int), .int .u64 (t : Int), .slice ab l.length cb] 57))
  rw [hsz0] at kd1
  clear kd
  go_wp2_with fail
  refine kd1.mono ?_
  rintro e w2 ⟨rfl, hb2⟩
  have hb12 := hb2
  have kc2 := kct w2 (hb0.trans (hb12.mono (by omega)))
  clear kd1 kct
  rw [← HN.out] at kc2
  go_wp2_with fail
  rw [HG.out]
  refine kc2.mono ?_
  rintro e w3 ⟨lv3, rfl, hF3, hb3⟩
  rw [HN.out] at hF3
  have hb13 := hb12.trans (hb3.mono (by have := hb12.size; omega))
  generalize (dCut fs (G ++ { data := #[46, 110, 101, 119] }) 0).2 = z3 at *
  generalize (dCut fs N 0).1 = fs1 at *
  obtain ⟨a3, p3, rfl⟩ := hF3.shape
  obtain ⟨c0, c1, c2⟩ := hcs _ hb13
  have ke3 := ke w3 (hb0.trans (hb13.mono (by omega)))
  clear kc2 ke
  go_wp2_with fail
  refine ke3.mono ?_
  rintro e w4 ⟨a4, n4, p4, rfl, hO4, hb4⟩
  have hb14 := hb13.trans (hb4.mono (by have := hb13.size; omega))
  have hbw4 := hb0.trans (hb14.mono (by omega))
  have hF4 := hF3.below hb4
  have ka := kap w4 _ a4 n4 p4 hbw4 hF4 (hO4.mono (by have := hb13.size; omega))
  clear ke3 kap hF3 c0 c1 c2 hO4
  generalize hRa : dAppend fs1 N B = R at *
  rw [← HN.out] at ka
  go_wp2_with fail
  refine ka.mono ?_
  rintro e w5 ⟨lv5, rfl, hF5, hb5⟩
  obtain ⟨a5, p5, rfl⟩ := hF5.shape
  have hbw5 := hbw4.trans (hb5.mono hbw4.size)
  clear ka
  by_cases h0 : R.2 = 0
  · rw [h0]
    rw [if_pos h0] at hR
    have ks := ksy w5 _ _ hs2 hF5
    have hs3 := hsync _ N hs2
    generalize hRs : dSync R.1 N = RS at *
    rw [← HN.out] at ks
    clear hF4 ksy hsync
    go_wp2_with fail
    refine ks.mono ?_
    rintro e w6 ⟨lv6, rfl, hF6, hb6⟩
    obtain ⟨a6, p6, rfl⟩ := hF6.shape
    have hbw6 := hbw5.trans (hb6.mono hbw5.size)
    have kr := krn w6 _ _ hs3 hF6
    clear ks krn hF5 hF6
    generalize hRr : dRename RS.1 N G = RR at *
    rw [← HN.out] at kr
    go_wp2_with fail
    refine kr.mono ?_
    rintro e w7 ⟨lv7, rfl, hF7, hb7⟩
    obtain ⟨a7, p7, rfl⟩ := hF7.shape
    have hbw7 := hbw6.trans (hb7.mono hbw6.size)
    have E := fin w7 _ _ _ (RR.1, 0) hF7 hbw7 hR.out
    clear kr fin hR
    go_wp2 <;> first | exact E.out | (go_ret2; exact E.out)
  · rw [if_neg h0] at hR
    have h0i : ¬ (R.2 : Int) = 0 := by omega
    have h0j : ((R.2 : Int) != 0) = true := by simp; omega
    have E := fin w5 _ _ _ (fs1, 2) (hF4.below hb5) hbw5 hR.out
    generalize R.2 = r2 at *
    clear fin hR ksy krn hF4 hF5
    go_wp2 <;> first | exact E.out | (go_ret2; exact E.out)
end Go.Proofs.YtoipjmjhplkibaaGreatDoor

/- The document's own Save where a group or a snapshot may not be. -/
namespace Go.Proofs.YtoipjmjhplkibaaGreatDoor
open Go.RowKit DiskMath
set_option maxRecDepth 100000
set_option linter.unusedSimpArgs false
set_option linter.unusedVariables false

set_option maxHeartbeats 1000000 in
theorem refSave_no [Keep] (fs : Files) (g : Int) (i t : Nat) (ab : Option Addr) (n cb : Nat) (lv : Value) (w : World) (hF : Fv w lv fs) (h : ¬ (0 ≤ g ∧ g ≤ 999) ∨ i = 0 ∨ 32768 < n) :
    Calls Tryz.prog 28 #[lv, .int .i64 g, .agg #[.int .u64 (i : Int), .int .u64 (t : Int), .slice ab n cb]] w (Told w (fs, 1)) := by
  have hb0 := (Below.refl w.heap.size w).alloc (Nat.le_refl _) (.cells #[.int .u64 (i : Int), .int .u64 (t : Int), .slice ab n cb] 57)
  obtain ⟨al, cl, rfl⟩ := hF.shape
  have E : Hid (Told w (fs, 1) (.returned (.tuple #[.slice al fs.length cl, .int .i64 1])) (w.alloc (.cells #[.int .u64 (i : Int), .int .u64 (t : Int), .slice ab n cb] 57))) := ⟨_, rfl, hF.below hb0, hb0⟩
  generalize Told w (fs, 1) = T at *
  clear hF hb0
  have hx : g < 0 ∨ (¬ g < 0 ∧ 999 < g) ∨ (¬ g < 0 ∧ ¬ 999 < g ∧ i = 0) ∨ (¬ g < 0 ∧ ¬ 999 < g ∧ ¬ i = 0 ∧ 32768 < n) := by omega
  clear h
  rcases hx with h | ⟨h, h'⟩ | ⟨h, h', rfl⟩ | ⟨h, h', h0, hn⟩
  · go_enter Tryz.func28, Tryz.ntmps28
    go_wp2 <;> first | exact E.out | (go_ret2; exact E.out)
  · go_enter Tryz.func28, Tryz.ntmps28
    go_wp2 <;> first | exact E.out | (go_ret2; exact E.out)
  · go_enter Tryz.func28, Tryz.ntmps28
    go_wp2 <;> first | exact E.out | (go_ret2; exact E.out)
  · have hii : ¬ (i : Int) = 0 := by omega
    have hij : ((i : Int) == 0) = false := by simp; omega
    have hn2 : (32768 : Int) < (n : Int) := by omega
    go_enter Tryz.func28, Tryz.ntmps28
    go_wp2 <;> first | exact E.out | (go_ret2; exact E.out)
end Go.Proofs.YtoipjmjhplkibaaGreatDoor


import Derived.Test.YtoipjmjhplkibaaDoorQ37
import Derived.Test.YtoipjmjhplkibaaDoorQ17
import Derived.Test.YtoipjmjhplkibaaDoorQ44
import Derived.Test.YtoipjmjhplkibaaDoorQ47
/- The contracts of the program's nameOf, groupMayBe and given, and of the document's own Digits. -/
namespace Go.Proofs.YtoipjmjhplkibaaDoor
open Go.RowKit DiskMath
set_option maxRecDepth 100000
set_option linter.unusedSimpArgs false
set_option linter.unusedVariables false

set_option maxHeartbeats 1000000 in
theorem sname_of (g : Nat) (w : World) (hT : Tb w) (hg : g < 1000) : Calls Tryd.prog 23 #[.int .i64 (g : Int)] w fun e w' => e = .returned (.string (gName g)) ∧ Below w.heap.size w w' := by
  have hi := Tryd.strconv_Itoa (g : Int) (by omega) (by omega) w hT.2
  have he : Lib.itoa (g : Int) = Lib.decDigits g := by
    unfold Lib.itoa
    rw [if_neg (by omega), Int.toNat_natCast]
  rw [he] at hi
  change Calls _ _ _ _ (fun e w' => e = .returned (.string (gDig g)) ∧ _) at hi
  have h3 := gDig_size hg
  have hk9 : ¬ 9223372036854775807 < 5 + (gDig g).size := by omega
  have hR' : Hid (gPre ++ gDig g = gName g) := rfl
  generalize gName g = R at *
  generalize gDig g = S at *
  clear hT he
  go_enter Tryd.func23, Tryd.ntmps23
  go_wp2_with fail
  refine hi.mono ?_
  rintro e w1 ⟨rfl, k, os, hw1⟩
  have hb : Below w.heap.size w w1 := by rw [hw1]; exact Lib.below_grow _ _ (Nat.le_refl _) _ _
  clear hw1 hi
  go_wp2
  go_ret
  exact ⟨by rw [← hR'.out]; rfl, hb⟩

theorem group_yes (g : Int) (w : World) (h0 : 0 ≤ g) (h9 : g ≤ 999) : Calls Tryd.prog 22 #[.int .i64 g] w fun e w' => e = .returned (.bool true) ∧ w' = w := by
  go_enter Tryd.func22, Tryd.ntmps22
  go_wp2
  go_ret
  exact ⟨by simp [h9], rfl⟩
theorem group_no (g : Int) (w : World) (h : ¬ (0 ≤ g ∧ g ≤ 999)) : Calls Tryd.prog 22 #[.int .i64 g] w fun e w' => e = .returned (.bool false) ∧ w' = w := by
  by_cases h0 : 0 ≤ g
  · have h9 : ¬ g ≤ 999 := fun h9 => h ⟨h0, h9⟩
    clear h
    go_enter Tryd.func22, Tryd.ntmps22
    go_wp2
    go_ret
    exact ⟨by simp [h9], rfl⟩
  · clear h
    go_enter Tryd.func22, Tryd.ntmps22
    go_wp2
    go_ret
    exact ⟨rfl, rfl⟩

theorem noName_gone {fs : Files} (h : SoundF fs) : get fs ⟨#[]⟩ = none := by
  cases hg : get fs ⟨#[]⟩ with
  | none => rfl
  | some f =>
    have := (sound_get h hg).1
    exact absurd this (by decide)

set_option maxHeartbeats 1000000 in
theorem sgiven_of {S : Nat → Prop} {w : World} {d : Value} {fs : Files} (h : Dk S w d fs) : Calls Tryd.prog 21 #[d] w fun e w' => e = .returned (.bool true) ∧ Leaves S w d fs w' := by
  have hs := diskOf.sync ⟨#[]⟩ (by decide) h
  have hd : dSync fs ⟨#[]⟩ = (fs, 4) := by
    unfold dSync
    rw [noName_gone (diskOf.sound h)]
  rw [hd] at hs
  clear hd
  obtain ⟨q, rfl⟩ := h.shape
  go_enter Tryd.func21, Tryd.ntmps21
  go_wp2_with fail
  refine hs.mono ?_
  rintro e w1 ⟨rfl, hx⟩
  go_wp2
  go_ret
  exact ⟨rfl, hx⟩
end Go.Proofs.YtoipjmjhplkibaaDoor

/- The contract of the program's Save. -/
namespace Go.Proofs.YtoipjmjhplkibaaDoor
open Go.RowKit DiskMath
set_option maxRecDepth 100000
set_option linter.unusedSimpArgs false
set_option linter.unusedVariables false

/-- An act behind others. -/
theorem Leaves.act {S : Nat → Prop} {w w1 : World} {d : Value} {fs : Files} {f : Nat} {args : Array Value} {R : Files × Nat} (h : Leaves S w d fs w1) (k : ∀ S1, Dk S1 w1 d fs → Calls Tryd.prog f args w1 (Did Dk S1 d w1 R)) :
    Calls Tryd.prog f args w1 fun e w2 => e = .returned (.int .i64 (R.2 : Int)) ∧ Leaves S w d R.1 w2 := by
  obtain ⟨S1, h1, h2, h3⟩ := h
  refine (k S1 h1).mono ?_
  rintro e w2 ⟨he, hl⟩
  exact ⟨he, Leaves.step h2 h3 hl⟩
theorem Leaves.then {S : Nat → Prop} {w w1 w2 : World} {d : Value} {fs : Files} (h : Leaves S w d fs w1) (hb : Below w1.heap.size w1 w2) : Leaves S w d fs w2 := by
  obtain ⟨S1, h1, h2, h3⟩ := h
  exact Leaves.step h2 h3 (Leaves.below h1 hb)
theorem Leaves.after {S : Nat → Prop} {w w1 w2 : World} {d : Value} {fs : Files} (hb : Below w.heap.size w w1) (h : Leaves S w1 d fs w2) : Leaves S w d fs w2 := by
  obtain ⟨S1, h1, h2, h3⟩ := h
  exact ⟨S1, h1, h2.after hb, Kept.after hb h3⟩
theorem Leaves.tb {S : Nat → Prop} {w w1 : World} {d : Value} {fs : Files} (h : Leaves S w d fs w1) (hT : Tb w) (hS2 : ∀ b, S b → 2 ≤ b) : Tb w1 := by
  obtain ⟨S1, h1, h2, h3⟩ := h
  exact hT.below (h3.below (n := 2) hT.two hS2) (Nat.le_refl _)

set_option maxHeartbeats 1000000 in
theorem ssave_arg {S : Nat → Prop} {w : World} {d : Value} {fs : Files} (g : Int) (i t : Nat) (a : Option Addr) (n cp : Nat) (hD : Dk S w d fs) (h : ¬ (0 ≤ g ∧ g ≤ 999) ∨ i = 0 ∨ 32768 < n) :
    Calls Tryd.prog 14 #[d, .int .i64 g, .int .u64 (i : Int), .int .u64 (t : Int), .slice a n cp] w (Did Dk S d w (fs, 1)) := by
  have kg := sgiven_of hD
  have fin : ∀ w', Leaves S w d fs w' → Hid (Did Dk S d w (fs, 1) (.returned (.int .i64 1)) w') := fun w' h => ⟨rfl, h⟩
  by_cases hg : 0 ≤ g ∧ g ≤ 999
  · have kr := fun w' => group_yes g w' hg.1 hg.2
    have h2 : i = 0 ∨ (i ≠ 0 ∧ 32768 < n) := by
      rcases h with h | h | h
      · exact absurd hg h
      · exact .inl h
      · by_cases h0 : i = 0
        · exact .inl h0
        · exact .inr ⟨h0, h⟩
    obtain ⟨q, rfl⟩ := hD.shape
    generalize Did Dk S (.pointer (some ⟨q, 0, none⟩)) w (fs, 1) = T at *
    clear hD h
    rcases h2 with rfl | ⟨h3, h4⟩
    · go_enter Tryd.func14, Tryd.ntmps14
      go_wp2_with fail
      refine kg.mono ?_
      rintro e w1 ⟨rfl, hL⟩
      have E := fin w1 hL
      have kr1 := kr w1
      clear kg kr fin hL
      go_wp2_with fail
      refine kr1.mono ?_
      rintro e w2 ⟨rfl, hw⟩
      rw [hw]
      clear hw kr1
      go_wp2 <;> first | exact E.out | (go_ret; exact E.out)
    · have hii : ¬ (i : Int) = 0 := by omega
      have hij : ((i : Int) == 0) = false := by simp; omega
      have h5 : (32768 : Int) < (n : Int) := by omega
      go_enter Tryd.func14, Tryd.ntmps14
      go_wp2_with fail
      refine kg.mono ?_
      rintro e w1 ⟨rfl, hL⟩
      have E := fin w1 hL
      have kr1 := kr w1
      clear kg kr fin hL
      go_wp2_with fail
      refine kr1.mono ?_
      rintro e w2 ⟨rfl, hw⟩
      rw [hw]
      clear hw kr1
      go_wp2 <;> first | exact E.out | (go_ret; exact E.out)
  · have kr := fun w' => group_no g w' hg
    obtain ⟨q, rfl⟩ := hD.shape
    generalize Did Dk S (.pointer (some ⟨q, 0, none⟩)) w (fs, 1) = T at *
    clear hD h
    go_enter Tryd.func14, Tryd.ntmps14
    go_wp2_with fail
    refine kg.mono ?_
    rintro e w1 ⟨rfl, hL⟩
    have E := fin w1 hL
    have kr1 := kr w1
    clear kg kr fin hL
    go_wp2_with fail
    refine kr1.mono ?_
    rintro e w2 ⟨rfl, hw⟩
    rw [hw]
    clear hw kr1
    go_wp2 <;> first | exact E.out | (go_ret; exact E.out)

set_option maxHeartbeats 4000000 in
theorem ssave_of {S : Nat → Prop} {w : World} {d : Value} {fs : Files} (g i t : Nat) (l : List Nat) (a : Option Addr) (cp : Nat) (hT : Tb w) (hD : Dk S w d fs) (hS2 : ∀ b, S b → 2 ≤ b) (hg : g < 1000) (hi : i < 18446744073709551616) (hi0 : i ≠ 0) (ht : t < 18446744073709551616) (hl : l.length ≤ 32768) (hly : ∀ c ∈ l, c < 256)
    (hB : ∀ w1, Kept S w w1 → Fr.Bs w1.heap.size w1 (.slice a l.length cp) l) :
    Calls Tryd.prog 14 #[d, .int .i64 (g : Int), .int .u64 (i : Int), .int .u64 (t : Int), .slice a l.length cp] w (Did Dk S d w (saveF fs g (Fr.snB i t l))) := by
  have hnm : (nName g).size ≤ maxLen := by have := nName_size hg; unfold maxLen; omega
  have hgm : (gName g).size ≤ maxLen := by have := gName_size hg; unfold maxLen; omega
  have hg8 := gName_size hg
  have hby := Fr.snB_bytes i t l hly
  have hbl := Fr.snB_len i t l hi ht hl
  have HN : Hid (gName g ++ ⟨#[46, 110, 101, 119]⟩ = nName g) := rfl
  have kby : ∀ w2 fs2, Leaves S w d fs2 w2 → Calls Tryd.prog 26 #[.int .u64 (i : Int), .int .u64 (t : Int), .slice a l.length cp] w2 fun e w' => ∃ a' n' p', e = .returned (.slice a' n' p') ∧ Hid (Fr.Own w2.heap.size w' (.slice a' n' p') (Fr.snB i t l)) ∧ Leaves S w d fs2 w' := fun w2 fs2 hL => by
    have hk : Kept S w w2 := by obtain ⟨_, _, _, h⟩ := hL; exact h
    refine (Fr.bytesOf_of i t l _ _ w2 (hL.tb hT hS2).1 (hB w2 hk) (Nat.le_refl _) hly hi ht hl).mono ?_
    rintro e w' ⟨a', n', p', he, hO, hb⟩
    exact ⟨a', n', p', he, hO, hL.then hb⟩
  generalize hB' : Fr.snB i t l = B at *
  have kgv := sgiven_of hD
  have kgr := fun w' => group_yes (g : Int) w' (by omega) (by omega)
  have knm : ∀ w2 fs2, Leaves S w d fs2 w2 → Calls Tryd.prog 23 #[.int .i64 (g : Int)] w2 fun e w' => e = .returned (.string (gName g)) ∧ Leaves S w d fs2 w' := fun w2 fs2 hL => (sname_of g w2 (hL.tb hT hS2) hg).mono fun e w' h => ⟨h.1, hL.then h.2⟩
  have kct : ∀ w2, Leaves S w d fs w2 → Calls Tryd.prog 24 #[d, .string (nName g), .int .i64 0] w2 fun e w' => e = .returned (.int .i64 ((dCut fs (nName g) 0).2 : Int)) ∧ Leaves S w d (dCut fs (nName g) 0).1 w' := fun w2 hL => hL.act fun S1 h1 => diskOf.cut (nName g) 0 hnm h1
  have kap : ∀ (w1 w2 : World) (fs2 : Files) (bv : Value), Hid (Fr.Own w1.heap.size w2 bv B) → Leaves S w d fs2 w2 → Calls Tryd.prog 25 #[d, .string (nName g), bv] w2 fun e w' => e = .returned (.int .i64 ((dAppend fs2 (nName g) B).2 : Int)) ∧ Leaves S w d (dAppend fs2 (nName g) B).1 w' := fun w1 w2 fs2 bv hO hL => by
    letI := keepAll
    have hO1 : Own w1.heap.size w2 bv B := hO
    exact hL.act fun S1 h1 => diskOf.append (nName g) bv B h1 (hO1.bs (Nat.zero_le _)) hby (by omega)
  have ksy : ∀ w2 fs2, Leaves S w d fs2 w2 → Calls Tryd.prog 27 #[d, .string (nName g)] w2 fun e w' => e = .returned (.int .i64 ((dSync fs2 (nName g)).2 : Int)) ∧ Leaves S w d (dSync fs2 (nName g)).1 w' := fun w2 fs2 hL => hL.act fun S1 h1 => diskOf.sync (nName g) hnm h1
  have krn : ∀ w2 fs2, Leaves S w d fs2 w2 → Calls Tryd.prog 28 #[d, .string (nName g), .string (gName g)] w2 fun e w' => e = .returned (.int .i64 ((dRename fs2 (nName g) (gName g)).2 : Int)) ∧ Leaves S w d (dRename fs2 (nName g) (gName g)).1 w' := fun w2 fs2 hL => hL.act fun S1 h1 => diskOf.rename (nName g) (gName g) hnm h1
  have hk9 : ¬ 9223372036854775807 < (gName g).size + 4 := by omega
  have hR : Hid (saveF fs g B = if (dAppend (dCut fs (nName g) 0).1 (nName g) B).2 = 0 then ((dRename (dSync (dAppend (dCut fs (nName g) 0).1 (nName g) B).1 (nName g)).1 (nName g) (gName g)).1, 0) else ((dCut fs (nName g) 0).1, 2)) := rfl
  have fin : ∀ w2 fs2 (n : Nat), Leaves S w d fs2 w2 → saveF fs g B = (fs2, n) → Hid (Did Dk S d w (saveF fs g B) (.returned (.int .i64 (n : Int))) w2) := fun w2 fs2 n hL he => by
    rw [he]
    exact ⟨rfl, hL⟩
  have hii : ¬ (i : Int) = 0 := by omega
  have hij : ((i : Int) == 0) = false := by simp; omega
  have hln : ¬ (32768 : Int) < (l.length : Int) := by omega
  obtain ⟨q, rfl⟩ := hD.shape
  generalize hTd : Did Dk S (.pointer (some ⟨q, 0, none⟩)) w (saveF fs g B) = T at *
  generalize gName g = G at *
  generalize nName g = N at *
  clear hTd hT hby hbl hB' hD hB hly
  go_enter Tryd.func14, Tryd.ntmps14
  go_wp2_with fail
  refine kgv.mono ?_
  rintro e w2 ⟨rfl, hL2⟩
  have kr2 := kgr w2
  clear kgr kgv
  go_wp2_with fail
  refine kr2.mono ?_
  rintro e w2' ⟨rfl, hw2⟩
  rw [hw2]
  clear hw2 w2' kr2
  have kn := knm w2 fs hL2
  clear hL2
  go_wp2_with fail
  refine kn.mono ?_
  rintro e w3 ⟨rfl, hL3⟩
  have kc := kct w3 hL3
  rw [← HN.out] at kc
  clear kn kct
  go_wp2_with fail
  refine kc.mono ?_
  rintro e w4 ⟨rfl, hL4⟩
  rw [HN.out] at hL4
  have kb := kby w4 _ hL4
  generalize hf1 : (dCut fs N 0).1 = fs1 at *
  clear kc kby hL3 hL4
  go_wp2_with fail
  refine kb.mono ?_
  rintro e w4' ⟨a4, n4, p4, rfl, hO4, hL4'⟩
  have ka := kap w4 w4' _ _ hO4 hL4'
  clear kb kap hO4
  generalize hRa : dAppend fs1 N B = R at *
  rw [← HN.out] at ka
  by_cases h0 : R.2 = 0
  · rw [h0] at ka
    rw [if_pos h0] at hR
    go_wp2_with fail
    refine ka.mono ?_
    rintro e w5 ⟨rfl, hL5⟩
    have ks := ksy w5 _ hL5
    rw [← HN.out] at ks
    clear ka hL4'
    go_wp2_with fail
    refine ks.mono ?_
    rintro e w6 ⟨rfl, hL6⟩
    rw [HN.out] at hL6
    have kn2 := knm w6 _ hL6
    clear ks hL5 knm ksy
    go_wp2_with fail
    refine kn2.mono ?_
    rintro e w7 ⟨rfl, hL7⟩
    have kr := krn w7 _ hL7
    rw [← HN.out] at kr
    clear kn2 krn hL6
    go_wp2_with fail
    refine kr.mono ?_
    rintro e w8 ⟨rfl, hL8⟩
    rw [HN.out] at hL8
    have E := fin w8 _ 0 hL8 hR.out
    clear kr fin hL7 hL8 hR
    go_wp2 <;> first | exact E.out | (go_ret; exact E.out)
  · have hd : R.1 = fs1 := by
      rw [← hRa]
      exact append_err (by rw [hRa]; exact h0)
    rw [if_neg h0] at hR
    have h0i : ¬ (R.2 : Int) = 0 := by omega
    have h0j : ((R.2 : Int) != 0) = true := by simp; omega
    generalize R.2 = r2 at *
    go_wp2_with fail
    refine ka.mono ?_
    rintro e w5 ⟨rfl, hL5⟩
    rw [hd] at hL5
    have E := fin w5 _ 2 hL5 hR.out
    clear ka fin hL5 hR hL4' knm ksy krn
    go_wp2 <;> first | exact E.out | (go_ret; exact E.out)
end Go.Proofs.YtoipjmjhplkibaaDoor


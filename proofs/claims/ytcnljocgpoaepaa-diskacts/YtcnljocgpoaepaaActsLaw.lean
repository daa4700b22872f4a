/- The law DiskActs answers true and leaves all memory as it was: the walk. -/
import Derived.Test.YtcnljocgpoaepaaSafeLaw
import Derived.Test.YtcnljocgpoaepaaDLoad
namespace Go.Proofs.Ytcnljocgpoaepaa
open Go.RowKit DiskMath
set_option maxRecDepth 100000
set_option linter.unusedSimpArgs false
set_option linter.unusedVariables false

/-- Files of the input lie apart from a disk of the call's own. -/
theorem Fv.out {w w2 : World} {S : Nat → Prop} {lv : Value} {fs : Files} {hS : ∀ b, S b → b < w2.heap.size} (h : @Fv keepAll w lv fs) (hb : Below w.heap.size w w2) (hSn : ∀ b, S b → w.heap.size ≤ b) : @Fv (keepBut S w2 hS) w2 lv fs := by
  obtain ⟨_, ao, cap, e, h2⟩ := h
  refine ⟨Nat.le_refl _, ao, cap, e, fun i f hf => ?_⟩
  obtain ⟨b, off, sv, r1, r2, r3, r4, r5, r6⟩ := h2 i f hf
  have hlt := World.block_lt_of_cell? w _ r2
  refine ⟨b, off, sv, r1, (hb.cell (p := ⟨b, off + i * 3, none⟩) hlt).trans r2, (hb.cell (p := ⟨b, off + i * 3 + 1, none⟩) hlt).trans r3, (hb.cell (p := ⟨b, off + i * 3 + 2, none⟩) hlt).trans r4, ?_, fun hs => by have := hSn b hs; simp at hlt; omega⟩
  have h := @Bs.below keepAll _ _ _ _ _ r5 hb
  exact @Bs.mono (keepBut S w2 hS) _ _ _ _ _ (h.imp fun b hlt _ hs => by have := hSn b hs; omega) hb.size

/-- Both tell the same files. -/
theorem files_both {w wr : World} {q : Nat} {lv : Value} {fs : Files} (h : Both w q lv fs wr) : Calls Try.prog 15 #[.pointer (some ⟨q, 0, none⟩)] wr fun e w' => ∃ ov, e = .returned ov ∧ (∃ ao cap, ov = .slice ao fs.length cap) ∧ Below w.heap.size w w' ∧ Calls Try.prog 14 #[ov, lv] w' fun e w'' => e = .returned (.bool true) ∧ Below w'.heap.size w' w'' := by
  obtain ⟨S, hS, hD, hF, hSn, hb⟩ := h
  have hsd := diskOf.sound hD
  have hby := hD.byte
  refine (dfiles_of hD).mono ?_
  rintro e w' ⟨ov, rfl, hW, hb'⟩
  have hF1 : @Fv keepAll w' ov fs := @Fo.fv keepAll _ _ _ _ (@Fw.fo keepAll _ _ _ _ hW (Nat.zero_le _))
  have hF2 : @Fv keepAll w' lv fs := @Fv.below keepAll _ _ _ _ (hF.imp (fun _ _ _ => trivial) (Nat.zero_le _)) hb'
  exact ⟨ov, rfl, hW.shape, hb.trans (hb'.mono hb.size), @sameF_of keepAll fs ov lv w' hF1 hF2 hby (by have := hsd.2.1; omega)⟩
theorem both_shape {w wr : World} {q : Nat} {lv : Value} {fs : Files} (h : Both w q lv fs wr) : (∃ ao cap, lv = .slice ao fs.length cap) ∧ Below w.heap.size w wr := by
  obtain ⟨S, hS, hD, hF, hSn, hb⟩ := h
  exact ⟨hF.shape, hb⟩

theorem Both.byte {w wr : World} {q : Nat} {lv : Value} {fs : Files} (h : Both w q lv fs wr) : ∀ f ∈ fs, ∀ c ∈ f.data, c < 256 := by
  obtain ⟨S, hS, hD, hF, hSn, hb⟩ := h
  exact hD.byte

/-- Both read the same. -/
theorem read_both {w wr : World} {q : Nat} {lv : Value} {fs : Files} (h : Both w q lv fs wr) (n : ByteArray) (hn : n.size ≤ maxLen) : Calls Try.prog 12 #[.pointer (some ⟨q, 0, none⟩), .string n] wr fun e w' => ∃ ao len cap, e = .returned (.tuple #[.slice ao len cap, .bool (get fs n).isSome]) ∧ Both w q lv fs w' ∧
    Calls Try.prog 13 #[lv, .string n] w' fun e w'' => ∃ ao2 len2 cap2 s, e = .returned (.tuple #[.slice ao2 len2 cap2, .bool (get fs n).isSome]) ∧ w'' = w' ∧ (convert 33 9 (.slice ao len cap)).run Try.prog w' = .ok (.string s) w' ∧ (convert 33 9 (.slice ao2 len2 cap2)).run Try.prog w' = .ok (.string s) w' := by
  letI := keepAll
  have hby := h.byte
  obtain ⟨S, hS, hD, hF, hSn, hb⟩ := h
  have hl := (diskOf.sound hD).2.1
  refine (dread_of n hn hD).mono ?_
  rintro e w' ⟨v, l, rfl, hO, hb', hl2⟩
  obtain ⟨ao, cap, rfl⟩ := hO.shape
  have hD' := diskOf.below hD hb'
  have hF' : @Fv (keepBut S w' (diskOf.lt hD')) w' lv fs := (@Fv.below (keepBut S wr hS) _ _ _ _ hF hb').renew
  refine ⟨ao, l.length, cap, rfl, ⟨S, diskOf.lt hD', hD', hF', hSn, hb.trans (hb'.mono hb.size)⟩, ?_⟩
  have hF2 : @Fv keepAll w' lv fs := hF'.imp (fun _ _ _ => trivial) (Nat.zero_le _)
  refine (@refRead_of keepAll fs n lv w' hF2 (by omega)).mono ?_
  rintro e w'' ⟨hT, rfl⟩
  cases hg : get fs n with
  | none =>
    rw [hg] at hT hl2
    obtain rfl : l = [] := hl2
    exact ⟨none, 0, 0, str [], hT, rfl, str_of (hO.bs (Nat.zero_le _)) (by simp), str_nil w''⟩
  | some f =>
    rw [hg] at hT hl2
    obtain rfl : l = f.data := hl2
    obtain ⟨sv, he, hB⟩ := hT
    obtain ⟨ao2, cap2, rfl, -⟩ := id hB
    have hbf := hby f (get_mem hg)
    exact ⟨ao2, _, cap2, str f.data, he, rfl, str_of (hO.bs (Nat.zero_le _)) hbf, str_of hB hbf⟩

set_option maxHeartbeats 4000000 in
theorem acts_law (rs : List Raw) (l : List Ac) (lv av : Value) (w : World) (hR : @Rv keepAll w lv rs) (hby : ∀ r ∈ rs, ∀ c ∈ r.data, c < 256) (hA : @Av keepAll w av l) (hok : ∀ x ∈ l, AcOk x) (hbl : ∀ x ∈ l, x.b.length ≤ 140737488355328) (hcl : ∀ x ∈ l, x.cuts.length * 8 ≤ 140737488355328) :
    Calls Try.prog 3 #[lv, av] w fun e w' => e = .returned (.bool true) ∧ Below w.heap.size w w' := by
  letI := keepAll
  have h0 := dload_of rs lv w hR hby
  have haw := awake_of
  have hmy : ∀ w', Below w.heap.size w w' → Calls Try.prog 8 #[lv] w' fun e w'' => MayT rs e ∧ Below w'.heap.size w' w'' := fun w' hb => may_of rs lv w' (hR.below hb)
  have hhv : ∀ w', Below w.heap.size w w' → Calls Try.prog 10 #[av] w' fun e w'' => HeavyT l e ∧ w'' = w' := fun w' hb => heavy_of l av w' (hA.below hb) (fun x hx => Nat.le_trans (hbl x hx) (by omega))
  obtain ⟨aa, ca, rfl, h2⟩ := id hA
  have hlv : ∃ ao cap, lv = .slice ao rs.length cap := by
    obtain ⟨ao, cap, e, _⟩ := id hR
    exact ⟨ao, cap, e⟩
  obtain ⟨al, cl, rfl⟩ := hlv
  go_enter Try.func3, Try.ntmps3
  go_wp2_with fail
  refine h0.mono ?_
  rintro e w1 ⟨hb1, hor⟩
  have k1 := hmy w1 hb1
  clear h0 hmy
  rcases hor with ⟨h64, hmay, S1, d, rfl, hD1, hS1⟩ | ⟨hno, rfl⟩
  · obtain ⟨q, rfl⟩ := hD1.shape
    go_wp2_with fail
    refine k1.mono ?_
    rintro e w2 ⟨⟨B, rfl, hB⟩, hb2⟩
    have hbw2 := hb1.trans (hb2.mono hb1.size)
    obtain rfl : B = true := hB.2 ⟨h64, hmay⟩
    have hI0 : Both w q (.slice al rs.length cl) (rs.map toFl) w2 := by
      have hD2 := diskOf.below hD1 hb2
      have hF0 : @Fv keepAll w (.slice al rs.length cl) (rs.map toFl) := hR.fv hmay (fun _ _ => trivial) (Nat.zero_le _)
      exact ⟨S1, diskOf.lt hD2, hD2, Fv.out hF0 hbw2 hS1, hS1, hbw2⟩
    have k2 := hhv w2 hbw2
    have ha2 := haw w2
    clear k1 hhv hD1 hB hR
    go_wp2_with fail
    refine k2.mono ?_
    rintro e w2' ⟨⟨B2, rfl, -⟩, hw2⟩
    rw [hw2]
    clear hw2 w2' k2
    cases B2 with
    | true =>
      clear haw hI0
      go_wp2_with fail
      refine ha2.mono ?_
      rintro e w3 ⟨rfl, hb3⟩
      go_wp2
      go_ret
      exact ⟨rfl, hbw2.trans (hb3.mono hbw2.size)⟩
    | false =>
      by_cases h8 : 8 < rs.length
      · have h8i : (8 : Int) < (rs.length : Int) := by omega
        clear haw hI0
        go_wp2_with fail
        refine ha2.mono ?_
        rintro e w3 ⟨rfl, hb3⟩
        go_wp2
        go_ret
        exact ⟨rfl, hbw2.trans (hb3.mono hbw2.size)⟩
      · have h8i : ¬ (8 : Int) < (rs.length : Int) := by omega
        clear ha2
        go_wp2
        go_loopg [0, 7] 100 (fun g s0 s7 wr => ∃ i : Nat, i + g = 100 ∧ s7 = .int .i64 (i : Int) ∧ ∃ fs, Both w q s0 fs wr)
        case atStart => exact ⟨0, by simp, rfl, _, hI0⟩
        case round =>
          obtain ⟨i, hi, rfl, fs, hI⟩ := hrel
          by_cases hgo : i < l.length ∧ i < 100
          · have hlt1 : (i : Int) < (l.length : Int) := by omega
            have hlt2 : (i : Int) < 100 := by omega
            have hx : l[i]? = some l[i] := List.getElem?_eq_getElem hgo.1
            have hxm := List.getElem_mem hgo.1
            obtain ⟨b, off, vs, rfl, ⟨bv, xcv, rfl, hB, hNx⟩, hc⟩ := h2 i l[i] hx
            have hok1 := hok _ hxm
            have k2 := both_does w q _ fs wr hI l[i] bv xcv hok1 hB hNx (hbl _ hxm) (hcl _ hxm)
            have hcell : ∀ w', Below w.heap.size w w' → ∀ (j : Nat) (u : Value), [Value.int .i64 l[i].what, .string l[i].name, .string l[i].to, bv, .int .i64 l[i].n, xcv][j]? = some u → w'.cell? ⟨b, off + i * 6 + j, none⟩ = some u := fun w' hb j u hu => (hb.cell (p := ⟨b, off + i * 6 + j, none⟩) (World.block_lt_of_cell? w _ (hc j u hu))).trans (hc j u hu)
            generalize l[i] = x at *
            have hbw := (both_shape hI).2
            have c0 := hcell wr hbw 0 _ rfl
            have c1 := hcell wr hbw 1 _ rfl
            have c2 := hcell wr hbw 2 _ rfl
            have c3 := hcell wr hbw 3 _ rfl
            have c4 := hcell wr hbw 4 _ rfl
            have c5 := hcell wr hbw 5 _ rfl
            rw [Nat.add_zero] at c0
            have hcn : ∀ w', Below w.heap.size w w' → w'.cell? ⟨b, off + i * 6 + 1, none⟩ = some (.string x.name) := fun w' hb => hcell w' hb 1 _ rfl
            clear hcell hc hx hgo hI0 hA h2 hI haw
            obtain ⟨ab, cb, rfl, -⟩ := id hB
            obtain ⟨an, cn, rfl, -⟩ := id hNx
            go_wp2_with fail
            refine k2.mono ?_
            rintro e w3 ⟨lv', rfl, hI3⟩
            generalize actF fs x = fs3 at *
            have d3 := hcn w3 (both_shape hI3).2
            have k3 := read_both hI3 x.name hok1.1
            obtain ⟨a7, c7, hlv7⟩ := (both_shape hI3).1
            subst hlv7
            clear k2 hI3
            go_wp2_with fail
            refine k3.mono ?_
            rintro e w4 ⟨ar, lr, cr, rfl, hI4, k4⟩
            have d4 := hcn w4 (both_shape hI4).2
            clear k3 hcn
            go_wp2_with fail
            refine k4.mono ?_
            rintro e w4' ⟨ar2, lr2, cr2, s, rfl, hw4, s1, s2⟩
            rw [hw4]
            clear hw4 w4' k4
            generalize (DiskMath.get fs3 x.name).isSome = pb at *
            go_wp2
            go_roundg (gk - 1)
            case measure => omega
            case rel => exact ⟨i + 1, by omega, by go_num, _, hI4⟩
          · have hgoi : ¬ ((i : Int) < (l.length : Int) ∧ (i : Int) < 100) := by omega
            have hend : (¬ (i : Int) < (l.length : Int)) ∨ ((i : Int) < (l.length : Int) ∧ ¬ (i : Int) < 100) := by
              by_cases h : (i : Int) < (l.length : Int)
              · exact .inr ⟨h, fun h' => hgoi ⟨h, h'⟩⟩
              · exact .inl h
            have k3 := files_both hI
            obtain ⟨a7, c7, hlv7⟩ := (both_shape hI).1
            subst hlv7
            clear hA h2 hI0 hI hok hbl hcl hgo hgoi
            rcases hend with h | ⟨h, h'⟩ <;>
            (go_wp2_with fail
             refine k3.mono ?_
             rintro e w3 ⟨ov, rfl, ⟨a3, c3, rfl⟩, hb3, k4⟩
             clear k3
             go_wp2_with fail
             refine k4.mono ?_
             rintro e w4 ⟨rfl, hb4⟩
             have hbw4 := hb3.trans (hb4.mono hb3.size)
             have ha := haw w4
             clear k4 haw
             go_wp2_with fail
             refine ha.mono ?_
             rintro e w5 ⟨rfl, hb5⟩
             go_wp2
             go_ret
             exact ⟨rfl, hbw4.trans (hb5.mono hbw4.size)⟩)
  · go_wp2_with fail
    refine k1.mono ?_
    rintro e w2 ⟨⟨B, rfl, hB⟩, hb2⟩
    have hbw2 := hb1.trans (hb2.mono hb1.size)
    obtain rfl : B = false := by
      cases B with
      | false => rfl
      | true => exact absurd (hB.1 rfl) hno
    have ha2 := haw w2
    clear k1 hhv hB hR haw
    go_wp2_with fail
    refine ha2.mono ?_
    rintro e w3 ⟨rfl, hb3⟩
    go_wp2
    go_ret
    exact ⟨rfl, hbw2.trans (hb3.mono hbw2.size)⟩
end Go.Proofs.Ytcnljocgpoaepaa

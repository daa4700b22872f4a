import Derived.Test.YtgfoogeiancecaaGreatDoorHw32
/- The contracts of a log's open and of Open, where all segments' files but the last one are whole. -/
namespace Go.Proofs.YtgfoogeiancecaaGreatDoor
open Go.RowKit WalMath DiskMath
set_option maxRecDepth 100000
set_option linter.unusedSimpArgs false
set_option linter.unusedVariables false

/-- What open leaves, the log's block being q. -/
def OpenT (S : Nat → Prop) (w : World) (q : Nat) (d : Value) (sg : List Seg) (fs : Files) (e : Ending) (w' : World) : Prop :=
  e = .returned (.tuple #[]) ∧ ∃ S' σ sv, Dk S' w' d fs ∧ WalAt σ w' q d sv sg ∧ (∀ b, S' b → (σ b).1 = 0) ∧ Step S S' w ∧ (∀ b, (σ b).1 ≠ 0 → b = q ∨ w.heap.size ≤ b) ∧ Kept (fun b => S b ∨ b = q) w w'

theorem open_end {S : Nat → Prop} {w w2 w3 : World} {q : Nat} {d sv : Value} {sg : List Seg} {σ : Wm} (hq : w.heap[q]? = some (.cells #[d, .slice none 0 0] 56 (0, 0))) (hqS : ¬ S q) (hSlt : ∀ b, S b → b < w.heap.size) (hb2 : Below w.heap.size w w2) (hb3 : Below w2.heap.size w2 w3) (hG : SegsAt σ w3 sv sg) (hnew : ∀ b, (σ b).1 ≠ 0 → w2.heap.size ≤ b) :
    ∃ σ', WalAt σ' (w3.setCell ⟨q, 1, none⟩ sv) q d sv sg ∧ (∀ b, S b → (σ' b).1 = 0) ∧ (∀ b, (σ' b).1 ≠ 0 → b = q ∨ w.heap.size ≤ b) ∧ Kept (fun b => S b ∨ b = q) w (w3.setCell ⟨q, 1, none⟩ sv) := by
  have hql := (Array.getElem?_eq_some_iff.1 hq).1
  have hb23 := hb2.trans (hb3.mono hb2.size)
  have hq3 := (hb23.block q hql).trans hq
  have hs := hb2.size
  have hsz : (w3.setCell ⟨q, 1, none⟩ sv).heap.size = w3.heap.size := by simp [World.setCell]
  have hq0 : (σ q).1 = 0 := by
    by_cases h : (σ q).1 = 0
    · exact h
    · have := hnew q h
      omega
  refine ⟨fun b => if b = q then (1, 0) else σ b, ⟨seg_set hq3 sv, hG.same (fun b hb => set_same 1 _ (fun e => by subst e; exact hb hq0)) (fun b hb => if_neg (fun e => by subst e; exact hb hq0)) (fun b hb => ?_), if_pos rfl⟩, fun b hb => ?_, fun b hb => ?_, ?_⟩
  · rw [hsz]
    by_cases e : b = q
    · have := hb23.size
      omega
    · have hb' : ((if b = q then (1, 0) else σ b) : Nat × Nat).1 ≠ 0 := hb
      rw [if_neg e] at hb'
      exact hG.lt b hb'
  · show ((if b = q then (1, 0) else σ b) : Nat × Nat).1 = 0
    rw [if_neg (fun e : b = q => hqS (e ▸ hb))]
    by_cases h : (σ b).1 = 0
    · exact h
    · have := hnew b h
      have := hSlt b hb
      omega
  · have hb' : ((if b = q then (1, 0) else σ b) : Nat × Nat).1 ≠ 0 := hb
    by_cases e : b = q
    · exact .inl e
    · rw [if_neg e] at hb'
      have := hnew b hb'
      exact .inr (by omega)
  · refine ⟨hb23.os, hb23.tape, hb23.output, by rw [hsz]; exact hb23.size, fun b hb hn => ?_⟩
    rw [set_same 1 _ (fun e => hn (.inr e))]
    exact hb23.block b hb

set_option maxHeartbeats 4000000 in
theorem open_of {S : Nat → Prop} {w : World} {q : Nat} {d : Value} {fs : Files} (xs : List (Seg × Nat)) (hT : Tb w) (hD : Dk S w d fs) (hq : w.heap[q]? = some (.cells #[d, .slice none 0 0] 56 (0, 0))) (hqS : ¬ S q) (hq2 : 2 ≤ q) (hS2 : ∀ b, S b → 2 ≤ b) (hx : Rdl xs) (hs : SegFs fs (xs.map xfile)) :
    Calls Tryz.prog 22 #[.pointer (some ⟨q, 0, none⟩)] w (OpenT S w q d (xs.map cutS) (leaveF (xs.map cutS) fs)) := by
  have kf := dfiles_of hD
  have hql := (Array.getElem?_eq_some_iff.1 hq).1
  have hSlt := diskOf.lt hD
  have c0 : w.cell? ⟨q, 0, none⟩ = some d := by rw [cells_of_block hq]; rfl
  have hrise : Rising (xs.map xfile) := fun i x y h1 h2 => by
    rw [List.getElem?_map] at h1 h2
    obtain ⟨a, ha, rfl⟩ := Option.map_eq_some_iff.1 h1
    obtain ⟨b, hb, rfl⟩ := Option.map_eq_some_iff.1 h2
    have := hx.num i a b ha hb
    show a.1.num < b.1.num
    omega
  have hbig : ∀ x ∈ xs.map xfile, 0 < x.1 ∧ x.1 < 100000000 := fun x hxm => by
    obtain ⟨y, hy, rfl⟩ := List.mem_map.1 hxm
    exact hx.big y hy
  have hfew : (xs.map xfile).length < 20 := by rw [List.length_map]; exact hx.few
  obtain ⟨dq, rfl⟩ := hD.shape
  have hlen : (xs.map cutS).length = xs.length := List.length_map _
  go_enter Tryz.func22, Tryz.ntmps22
  go_wp2_with fail
  refine kf.mono ?_
  rintro e w1 ⟨ov, rfl, hF, hb1⟩
  have kg := filesOf_of w.heap.size fs (xs.map xfile) ov w1 hF hs hbig hrise hfew
  obtain ⟨oa, oc, rfl⟩ := hF.shape
  clear kf hF
  go_wp2_with fail
  refine kg.mono ?_
  rintro e w2 ⟨v, rfl, hN, hSh, hb2⟩
  have hb02 := hb1.trans (hb2.mono hb1.size)
  have kr := read_of xs v w2 (hT.new hb02) hN hx
  obtain ⟨va, vc, hve, -⟩ := id hN
  rw [List.length_map] at hve
  subst hve
  clear kg hN
  go_wp2_with fail
  refine kr.mono ?_
  rintro e w3 ⟨sv, rv, σ, rfl, hG, hnew, hb3⟩
  have hb03 := hb02.trans (hb3.mono hb02.size)
  have hq3 := (hb03.block q hql).trans hq
  have f1 := frozen_of hq3 1
  have d1 : w3.cell? ⟨q, 1, none⟩ = some (.slice none 0 0) := by rw [cells_of_block hq3]; rfl
  obtain ⟨σ', hW', hS', hq', hk'⟩ := open_end hq hqS hSlt hb02 hb3 hG hnew
  have hshape : ∃ a c, sv = .slice a xs.length c := by
    obtain ⟨a, c, e, -⟩ := hG.shape
    rw [hlen] at e
    exact ⟨a, c, e⟩
  obtain ⟨sa, sc, rfl⟩ := hshape
  have hsz4 : (w3.setCell ⟨q, 1, none⟩ (.slice sa xs.length sc)).heap.size = w3.heap.size := by simp [World.setCell]
  have hD4 : Dk S (w3.setCell ⟨q, 1, none⟩ (.slice sa xs.length sc)) (.pointer (some ⟨dq, 0, none⟩)) fs := diskOf.kept hD (by rw [hsz4]; exact hb03.size) fun b hb => (set_same 1 _ (fun e => by subst e; exact hqS hb)).trans (hb03.block b (hSlt b hb))
  have hno : ∀ k, k < 2 → ¬ (S k ∨ k = q) := fun k hk h => by
    rcases h with h | h
    · have := hS2 k h
      omega
    · omega
  have hT4 : Tb (w3.setCell ⟨q, 1, none⟩ (.slice sa xs.length sc)) := hT.below (n := 2) ⟨hk'.os, hk'.tape, hk'.output, hk'.size, fun k hk => hk'.block k (by have := hT.two; omega) (hno k hk)⟩ (Nat.le_refl _)
  have hq4 := hW'.block
  have e1 : (w3.setCell ⟨q, 1, none⟩ (.slice sa xs.length sc)).cell? ⟨q, 1, none⟩ = some (.slice sa xs.length sc) := by rw [cells_of_block hq4]; rfl
  have kl := leave_all hT4 hD4 hW' hS' (by rw [hlen]; have := hx.few; omega) (fun s hs => by
    obtain ⟨y, hy, rfl⟩ := List.mem_map.1 hs
    refine ⟨(hx.big y hy).2, ?_⟩
    show (y.1.recs.take _).length ≤ _
    rw [List.length_take]
    have := (hx.small y hy).2
    omega)
  rw [hlen] at kl
  have fin : ∀ e w', LeaveT S (w3.setCell ⟨q, 1, none⟩ (.slice sa xs.length sc)) (.pointer (some ⟨dq, 0, none⟩)) (leaveF (xs.map cutS) fs) e w' → e = .returned (.tuple #[]) ∧ Hid (OpenT S w q (.pointer (some ⟨dq, 0, none⟩)) (xs.map cutS) (leaveF (xs.map cutS) fs) e w') := by
    rintro e w' ⟨he, S5, h1, h2, h3⟩
    refine ⟨he, he, S5, σ', _, h1, hW'.kept h3 hS', fun b hb => ?_, fun b hb => ?_, hq', ?_⟩
    · rcases h2 b hb with h | h
      · exact hS' b h
      · by_cases h0 : (σ' b).1 = 0
        · exact h0
        · have := hW'.segs.lt b h0
          omega
    · rcases h2 b hb with h | h
      · exact .inl h
      · exact .inr (Nat.le_trans hk'.size h)
    · exact ⟨h3.os.trans hk'.os, h3.tape.trans hk'.tape, h3.output.trans hk'.output, Nat.le_trans hk'.size h3.size, fun b hb hn => (h3.block b (Nat.lt_of_lt_of_le hb hk'.size) (fun h => hn (.inl h))).trans (hk'.block b hb hn)⟩
  generalize LeaveT S (w3.setCell ⟨q, 1, none⟩ (.slice sa xs.length sc)) (.pointer (some ⟨dq, 0, none⟩)) (leaveF (xs.map cutS) fs) = LT at *
  generalize OpenT S w q (.pointer (some ⟨dq, 0, none⟩)) (xs.map cutS) (leaveF (xs.map cutS) fs) = T at *
  rw [List.length_map] at hSh
  clear kr hG hD4 hT4 hq4 hW' hD hq3
  rcases hSh with ⟨h1, h2⟩ | ⟨g, cap, h1, h2, h3⟩
  · injection h1 with h1 h1' h1''
    subst h1 h1''
    obtain rfl := List.eq_nil_of_length_eq_zero h2
    simp only [List.length_nil] at kl fin e1 d1 ⊢
    clear hlen h1' h2 hrise hbig hfew hs hx
    go_wp2
    go_loopg [29] 0 (fun g s29 wr => s29 = .int .i64 0 ∧ wr = (w3.setCell ⟨q, 1, none⟩ (.slice sa 0 sc)))
    case atStart => exact ⟨rfl, rfl⟩
    case round =>
      obtain ⟨rfl, rfl⟩ := hrel
      go_wp2_with fail
      refine kl.mono ?_
      intro e w9 hL
      obtain ⟨rfl, hfin⟩ := fin e w9 hL
      clear fin kl hL
      go_wp2 <;> first | exact hfin.out | (go_end0; exact hfin.out)
  · injection h1 with h1 h1' h1''
    subst h1 h1''
    have hn1 : (xs.length : Int) ≤ (vc : Int) := by omega
    have hn2 : ¬ (xs.length : Int) < 0 := by omega
    have hn3 : (vc : Int) ≤ 9223372036854775807 := by unfold maxLen at h3; omega
    obtain ⟨a, ha⟩ : ∃ a, (if vc = xs.length then some (⟨g, 0, none⟩ : Addr) else some ⟨g, xs.length * 2, none⟩) = some a := by split <;> exact ⟨_, rfl⟩
    go_wp2
    go_loopg [29] 0 (fun g s29 wr => s29 = .int .i64 0 ∧ wr = (w3.setCell ⟨q, 1, none⟩ (.slice sa xs.length sc)))
    case atStart => exact ⟨rfl, rfl⟩
    case round =>
      obtain ⟨rfl, rfl⟩ := hrel
      go_wp2_with fail
      refine kl.mono ?_
      intro e w9 hL
      obtain ⟨rfl, hfin⟩ := fin e w9 hL
      clear fin kl hL
      go_wp2 <;> first | exact hfin.out | (go_end0; exact hfin.out)
end Go.Proofs.YtgfoogeiancecaaGreatDoor

/- The contract of Open. -/
namespace Go.Proofs.YtgfoogeiancecaaGreatDoor
open Go.RowKit WalMath DiskMath
set_option maxRecDepth 100000
set_option linter.unusedSimpArgs false
set_option linter.unusedVariables false

/-- What Open tells: a log over the disk. -/
def OpensT (S : Nat → Prop) (w : World) (d : Value) (sg : List Seg) (fs : Files) (e : Ending) (w' : World) : Prop :=
  ∃ v U, e = .returned (.tuple #[v, .int .i64 0]) ∧ Lg U w' v d sg fs ∧ Step S U w ∧ Kept S w w'

set_option maxHeartbeats 2000000 in
theorem opens_of {S : Nat → Prop} {w : World} {d : Value} {fs : Files} (xs : List (Seg × Nat)) (hT : Tb w) (hD : Dk S w d fs) (hS2 : ∀ b, S b → 2 ≤ b) (hx : Rdl xs) (hs : SegFs fs (xs.map xfile)) :
    Calls Tryz.prog 5 #[d] w (OpensT S w d (xs.map cutS) (leaveF (xs.map cutS) fs)) := by
  have kg := wgiven_of hD
  have ko : ∀ S1 w1, Dk S1 w1 d fs → Step S S1 w → Kept S w w1 → Calls Tryz.prog 22 #[.pointer (some ⟨w1.heap.size, 0, none⟩)] (w1.alloc (.cells #[d, .slice none 0 0] 56)) fun e w' => e = .returned (.tuple #[]) ∧ Hid (OpensT S w d (xs.map cutS) (leaveF (xs.map cutS) fs) (.returned (.tuple #[.pointer (some ⟨w1.heap.size, 0, none⟩), .int .i64 0])) w') := fun S1 w1 h1 h2 h3 => by
    have hb : Below w1.heap.size w1 (w1.alloc (.cells #[d, .slice none 0 0] 56)) := (Below.refl _ _).alloc (Nat.le_refl _) _
    have h2' : ∀ b, S1 b → 2 ≤ b := fun b hb => (h2 b hb).elim (hS2 b) fun h => Nat.le_trans hT.two h
    have hT1 : Tb w1 := hT.below (n := 2) ⟨h3.os, h3.tape, h3.output, h3.size, fun k hk => h3.block k (by have := hT.two; omega) (fun h => by have := hS2 k h; omega)⟩ (Nat.le_refl _)
    have hlt := diskOf.lt h1
    refine (open_of (q := w1.heap.size) xs (hT1.new hb) (diskOf.below h1 hb) (heap_alloc_new w1 _) (fun h => by have := hlt _ h; omega) (by have := hT1.two; omega) h2' hx hs).mono ?_
    rintro e w' ⟨he, S', σ, sv, g1, g2, g3, g4, g5, g6⟩
    have hsz : (w1.alloc (.cells #[d, .slice none 0 0] 56)).heap.size = w1.heap.size + 1 := by simp
    refine ⟨he, _, fun b => S' b ∨ (σ b).1 ≠ 0, rfl, ⟨S', σ, w1.heap.size, sv, rfl, g1, g2, g3, fun b => Iff.rfl⟩, fun b hb' => ?_, ?_⟩
    · have hs3 := h3.size
      rcases hb' with h | h
      · rcases g4 b h with h | h
        · exact h2 b h
        · exact .inr (by omega)
      · rcases g5 b h with h | h
        · exact .inr (by omega)
        · exact .inr (by omega)
    · refine ⟨g6.os.trans h3.os, g6.tape.trans h3.tape, g6.output.trans h3.output, by have := g6.size; have := h3.size; omega, fun b hb' hn => ?_⟩
      have hs3 := h3.size
      rw [g6.block b (by omega) (fun h => by
        rcases h with h | h
        · exact (h2 b h).elim hn fun h' => by omega
        · omega), hb.block b (by omega), h3.block b hb' hn]
  obtain ⟨dq, rfl⟩ := hD.shape
  generalize OpensT S w (.pointer (some ⟨dq, 0, none⟩)) (xs.map cutS) (leaveF (xs.map cutS) fs) = T at *
  clear hD hT hx hs
  go_enter Tryz.func5, Tryz.ntmps5
  go_wp2_with fail
  refine kg.mono ?_
  rintro e w1 ⟨rfl, S1, h1, h2, h3⟩
  have ko1 := ko S1 w1 h1 h2 h3
  clear kg ko h1 h2 h3
  go_wp2_with fail
  refine ko1.mono ?_
  rintro e w2 ⟨rfl, hfin⟩
  clear ko1
  go_wp2 <;> first | exact hfin.out | (go_ret2; exact hfin.out)
end Go.Proofs.YtgfoogeiancecaaGreatDoor


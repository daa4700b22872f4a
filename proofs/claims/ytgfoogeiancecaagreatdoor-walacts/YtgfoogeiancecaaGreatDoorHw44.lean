import Derived.Test.YtgfoogeiancecaaGreatDoorHw22
import Derived.Test.YtgfoogeiancecaaGreatDoorHw39
/- The contract of the document's own one: the record at the beginning of bytes, in new memory. -/
namespace Go.Proofs.YtgfoogeiancecaaGreatDoor.Fr
open Go.RowKit WireMath CrcMath FrameMath WalMath
set_option maxRecDepth 100000
set_option linter.unusedSimpArgs false
set_option linter.unusedVariables false

/-- What the document's one tells. -/
def ROneT (w : World) (o : Option (Rec × Nat)) (e : Ending) (w' : World) : Prop :=
  Below w.heap.size w w' ∧ match o with
  | none => e = .returned (.tuple #[.agg #[.int .u64 0, .slice none 0 0], .int .i64 0])
  | some (r, n) => ∃ v, e = .returned (.tuple #[.agg #[.int .u64 (r.index : Int), v], .int .i64 (n : Int)]) ∧ Bs w'.heap.size w' v r.data ∧ (∀ j, v.ownBlock = some j → w.heap.size ≤ j ∧ j < w'.heap.size)

theorem results_rec2 {fn : Func} {p u : Tmp} (h : fn.results = #[.cell p 44, .tmp u]) (tmps : Array Value) (w : World) (g : Nat) (a b : Value)
    (hp : tmps.getD p undef = .pointer (some ⟨g, 0, none⟩)) (hg : w.heap[g]? = some (.cells #[a, b] 44 (0, 0))) :
    (results fn tmps).run Tryz.prog w = .ok (.tuple #[.agg #[a, b], tmps.getD u undef]) w := by
  have hp' : tmps[p]?.getD undef = .pointer (some ⟨g, 0, none⟩) := by simpa using hp
  simp [results, h, hp', asAddr, run_loadVar_row w g 44 44 #[a, b] (0, 0) _ hg Tryz.underlying44 rfl (by kernel_rfl)]
theorem roneT_none {w w1 : World} {o : Option (Rec × Nat)} (ho : o = none) (hb : Below w.heap.size w w1) :
    ROneT w o (.returned (.tuple #[.agg #[.int .u64 0, .slice none 0 0], .int .i64 0])) ((w1.setCell ⟨w.heap.size, 0, none⟩ (.int .u64 0)).setCell ⟨w.heap.size, 1, none⟩ (.slice none 0 0)) := by
  subst ho
  exact ⟨(hb.setCell (p := ⟨w.heap.size, 0, none⟩) (Nat.le_refl _) _).setCell (p := ⟨w.heap.size, 1, none⟩) (Nat.le_refl _) _, rfl⟩
theorem roneT_some {w w1 : World} {o : Option (Rec × Nat)} {r : Rec} {n : Nat} (ho : o = some (r, n)) (hb : Below w.heap.size w w1) (v : Value) (hB : Bs w1.heap.size w1 v r.data) (hv : ∀ j, v.ownBlock = some j → w.heap.size + 1 ≤ j ∧ j < w1.heap.size) :
    ROneT w o (.returned (.tuple #[.agg #[.int .u64 (r.index : Int), v], .int .i64 (n : Int)])) ((w1.setCell ⟨w.heap.size, 0, none⟩ (.int .u64 (r.index : Int))).setCell ⟨w.heap.size, 1, none⟩ v) := by
  obtain ⟨h1, v', h2, h3, h4⟩ := oneT_some ho hb v hB hv |> fun h => (by subst ho; exact h : OneT w (some (r, n)) _ _)
  simp only [Ending.returned.injEq, Value.tuple.injEq, Array.mk.injEq, List.cons.injEq, Value.agg.injEq, and_true, true_and] at h2
  subst h2 ho
  exact ⟨h1, v, rfl, h3, h4⟩

set_option maxHeartbeats 4000000 in
theorem refOne_of (n₀ : Nat) (l : List Nat) (v : Value) (w : World) (hB : Bs n₀ w v l) (hl : ∀ c ∈ l, c < 256) (hn₀ : n₀ ≤ w.heap.size) (hlen : l.length ≤ 1000000) :
    Calls Tryz.prog 63 #[v] w (ROneT w (one l)) := by
  obtain ⟨ao, cap, rfl, h2, h3, h4, h5⟩ := id hB
  have hb0 := (Below.refl w.heap.size w).alloc (Nat.le_refl _) (.cells #[.int .u64 0, .slice none 0 0] 44)
  have hbk0 := heap_alloc_new w (.cells #[.int .u64 0, .slice none 0 0] 44)
  have hsz0 : (w.alloc (.cells #[.int .u64 0, .slice none 0 0] 44)).heap.size = w.heap.size + 1 := by simp
  have kn := refNext_of n₀ l _ (w.alloc (.cells #[.int .u64 0, .slice none 0 0] 44)) (hB.below (hb0.mono hn₀)) hl (Nat.le_trans hn₀ hb0.size)
  obtain ⟨o, HO⟩ : ∃ o, Hid (o = one l) := ⟨_, rfl⟩
  rw [← HO.out]
  have fin0 : ∀ w1, o = none → Below w.heap.size w w1 → Hid (ROneT w o _ _) := fun w1 ho hb => roneT_none (w1 := w1) ho hb
  have fin1 : ∀ w1 (r : Rec) n v, o = some (r, n) → Below w.heap.size w w1 → Bs w1.heap.size w1 v r.data → (∀ j, v.ownBlock = some j → w.heap.size + 1 ≤ j ∧ j < w1.heap.size) → Hid (ROneT w o _ _) := fun w1 r n v ho hb hB hv => roneT_some (w1 := w1) ho hb v hB hv
  generalize ROneT w o = T at *
  go_enter Tryz.func63, Tryz.ntmps63
  go_wp2_with fail
  refine kn.mono ?_
  rintro e' w1 ⟨v', rfl, hB', hv', hb1⟩
  have hblk := (hb1.block w.heap.size (by rw [hsz0]; omega)).trans hbk0
  have hs1 : w.heap.size < w1.heap.size := (Array.getElem?_eq_some_iff.1 hblk).1
  have hbw1 : Below w.heap.size w w1 := hb0.trans (hb1.mono hb0.size)
  clear kn
  obtain ⟨av, cv, rfl, hv2, hv3, hv4, hv5⟩ := id hB'
  have hbA : ∀ x, Below w1.heap.size w1 (w1.alloc x) := fun x => (Below.refl _ _).alloc (Nat.le_refl _) x
  cases hx : next l with
  | error e =>
    have ho : o = none := by rw [HO.out]; unfold one; rw [hx]
    have he : e ≠ 0 := next_err_ne hx
    have hei : ¬ (e : Int) = 0 := by omega
    have hej : ((e : Int) != 0) = true := by simp; omega
    simp only [nrV]
    rw [hx] at hv2 hv5
    generalize (nxD (Except.error e)).length = L at *
    obtain ⟨W1, hW1⟩ : ∃ W1, w1.alloc (.cells #[.int .u8 0, .slice av L cv] 145) = W1 := ⟨_, rfl⟩
    have hbA1 : Below w1.heap.size w1 W1 := by rw [← hW1]; exact hbA _
    have hblk2 := (hbA1.block w.heap.size hs1).trans hblk
    have c0 : W1.cell? ⟨w.heap.size, 0, none⟩ = some (.int .u64 0) := by rw [cells_of_block hblk2]; rfl
    have c1 : W1.cell? ⟨w.heap.size, 1, none⟩ = some (.slice none 0 0) := by rw [cells_of_block hblk2]; rfl
    have f0 := frozen_of hblk2 0
    have f1 := frozen_of hblk2 1
    have hfin := fin0 W1 ho (hbw1.trans (hbA1.mono hbw1.size))
    have hblk' : Hid (W1.heap[w.heap.size]? = _) := hblk2
    clear HO hB hB' hv' fin0 fin1 hblk hblk2 hbA
    go_wp2
    (try simp only [Exit.inBlock, Exit.then])
    refine bodyPost_ret (results_rec2 rfl _ _ w.heap.size _ _ rfl (rec_set hblk'.out _ _)) rfl ?_
    exact hfin.out
  | ok x =>
    obtain ⟨k, d, n⟩ := x
    have hf := next_ok_facts hx
    have hd : ∀ c ∈ d, c < 256 := fun c hc => hl c (hf.2.2.2 c hc)
    simp only [nrV]
    rw [hx] at hv2 hv5 hB'
    simp only [nxD] at hv2 hv5 hB' ⊢
    obtain ⟨W1, hW1⟩ : ∃ W1, w1.alloc (.cells #[.int .u8 (k : Int), .slice av d.length cv] 145) = W1 := ⟨_, rfl⟩
    have hbA1 : Below w1.heap.size w1 W1 := by rw [← hW1]; exact hbA _
    have hblk2 := (hbA1.block w.heap.size hs1).trans hblk
    have hbI : W1.heap[w1.heap.size]? = some (.cells #[.int .u8 (k : Int), .slice av d.length cv] 145 (0, 0)) := by rw [← hW1]; exact heap_alloc_new _ _
    have c0 : W1.cell? ⟨w.heap.size, 0, none⟩ = some (.int .u64 0) := by rw [cells_of_block hblk2]; rfl
    have c1 : W1.cell? ⟨w.heap.size, 1, none⟩ = some (.slice none 0 0) := by rw [cells_of_block hblk2]; rfl
    have f0 := frozen_of hblk2 0
    have f1 := frozen_of hblk2 1
    have k0 : W1.cell? ⟨w1.heap.size, 0, none⟩ = some (.int .u8 (k : Int)) := by rw [cells_of_block hbI]; rfl
    have k1 : W1.cell? ⟨w1.heap.size, 1, none⟩ = some (.slice av d.length cv) := by rw [cells_of_block hbI]; rfl
    have hbwA : Below w.heap.size w W1 := hbw1.trans (hbA1.mono hbw1.size)
    by_cases hk : k = 1
    · subst hk
      have hw1 : w1.heap.size < W1.heap.size := (Array.getElem?_eq_some_iff.1 hbI).1
      have hblk' : Hid (W1.heap[w.heap.size]? = _) := hblk2
      have hbI' : Hid (W1.heap[w1.heap.size]? = _) := hbI
      have hvA : Hid (Bs w1.heap.size W1 (.slice av d.length cv) d) := hB'.below hbA1
      clear hblk2 hbI hblk hB hbA c0 c1 f0 f1 hB'
      have hW1' : w1.alloc (.cells #[.int .u8 1, .slice av d.length cv] 145) = W1 := hW1
      clear hW1
      go_wp2
      clear hW1'
      go_loopg [7] 10 (fun g s7 wr => ∃ m : Nat, m + g = 11 ∧ 0 < m ∧ s7 = .int .i64 (m : Int) ∧ Hid (∀ j N, j < m → rd 10 0 0 d ≠ some (N, j)) ∧ Below W1.heap.size W1 wr)
      case atStart => exact ⟨1, by omega, by omega, rfl, fun j N hj h => by have := (rd_parts hd h).2.1; omega, Below.refl _ _⟩
      case round =>
        obtain ⟨m, hm, hm0, rfl, H, hbw⟩ := hrel
        have hsW := hbw.size
        have hBr := hvA.out.below (hbw.mono (by omega))
        have hblkR := (hbw.block w.heap.size (by omega)).trans hblk'.out
        have hblkI := (hbw.block w1.heap.size (by omega)).trans hbI'.out
        have k1r : wr.cell? ⟨w1.heap.size, 1, none⟩ = some (.slice av d.length cv) := by rw [cells_of_block hblkI]; rfl
        have hbR : Below w.heap.size w wr := hbwA.trans (hbw.mono hbwA.size)
        clear k0 k1
        by_cases hgo : m ≤ d.length ∧ m ≤ 10
        · have hgo1 : (m : Int) ≤ (d.length : Int) := by omega
          have hgo2 : (m : Int) ≤ 10 := by omega
          have hnc : (m : Int) ≤ (cv : Int) := by omega
          have hnc2 : m ≤ cv := by omega
          have hcvi : (cv : Int) ≤ 9223372036854775807 := by unfold maxLen at hv3; omega
          have hBt := Bs.took hBr hgo.1
          have hlt : ∀ c ∈ d.take m, c < 256 := fun c hc => hd c (List.mem_of_mem_take hc)
          have hbx := (Below.refl wr.heap.size wr).alloc (Nat.le_refl _) (.cells #[.slice av m cv, .int .i64 0, .int .i64 0] 150)
          have hR : Rr w1.heap.size (wr.alloc (.cells #[.slice av m cv, .int .i64 0, .int .i64 0] 150)) wr.heap.size (d.take m) 0 0 := ⟨_, heap_alloc_new wr _, hBt.below (hbx.mono (by omega)), Nat.zero_le _, by omega⟩
          have hu := ruv_of w1.heap.size wr.heap.size (d.take m) 0 0 _ hR hlt
          have hN : uvN (d.take m) 0 0 = ((rd 10 0 0 (d.take m)).getD (0, 0)).1 := rfl
          have hNlt := uvN_lt (a := 0) (b := 0) hlt
          have hiff := value_iff hd hgo.1
          have hback : ∀ N, rd 10 0 0 d = some (N, m) → uv ((rd 10 0 0 (d.take m)).getD (0, 0)).1 = d.take m := fun N h => by
            obtain ⟨g1, g2⟩ := value_back hd hgo.1 h
            rw [g1]
            exact g2
          rw [hN] at hu hNlt
          generalize ((rd 10 0 0 (d.take m)).getD (0, 0)).1 = N at *
          have hub : ∀ c ∈ uv N, c < 256 := uv_bytes N
          clear hR hN hbx
          go_wp2_with fail
          refine hu.mono ?_
          rintro e w2 ⟨rfl, -, hk2⟩
          have hbx := (Below.refl wr.heap.size wr).alloc (Nat.le_refl _) (.cells #[.slice av m cv, .int .i64 0, .int .i64 0] 150)
          have hbr2 : Below wr.heap.size wr w2 := hbx.trans (hk2.below (Nat.le_refl _) hbx.size)
          have hbel2 : Below W1.heap.size W1 w2 := hbw.trans (hbr2.mono hsW)
          have hB2 := hBt.below (hbr2.mono (by omega))
          have hs2 := hbel2.size
          clear hu hk2 hbx hBt
          have hd2 : Below w2.heap.size w2 w2.drew := (Below.refl _ _).drew
          have ku := refUvarint_of N w2.drew hNlt
          have hS : ∀ w', Below w2.heap.size w2 w' → (convert 32 9 (.slice av m cv)).run Tryz.prog w' = .ok (.string (str (d.take m))) w' := fun w' hb => str_of (hB2.below (hb.mono (by omega))) hlt
          have hC : ∀ w', Below w2.heap.size w2 w' → w'.cell? ⟨w1.heap.size, 1, none⟩ = some (.slice av d.length cv) := fun w' hb => by
            rw [cells_of_block ((hb.block w1.heap.size (by omega)).trans ((hbr2.block w1.heap.size (by omega)).trans hblkI))]; rfl
          clear k1r
          by_cases he : uv N = d.take m
          · obtain ⟨N', hr, hNN⟩ := hiff.1 he
            subst hNN
            have hone : o = if N' = 0 ∨ 4096 < d.length - m then none else some (⟨N', d.drop m⟩, n) := by
              rw [HO.out]
              unfold one
              rw [hx]
              dsimp only
              rw [if_pos rfl, hr]
            have hX : ∀ w4, Below w2.heap.size w2 w4 → w4.cell? ⟨w.heap.size, 0, none⟩ = some (.int .u64 0) ∧ w4.cell? ⟨w.heap.size, 1, none⟩ = some (.slice none 0 0) ∧ w4.frozen? ⟨w.heap.size, 0, none⟩ = false ∧ w4.frozen? ⟨w.heap.size, 1, none⟩ = false ∧ Hid (w4.heap[w.heap.size]? = some (.cells #[.int .u64 0, .slice none 0 0] 44 (0, 0))) := fun w4 hb4 => by
              have h4 := (hb4.block w.heap.size (by omega)).trans ((hbr2.block w.heap.size (by omega)).trans hblkR)
              exact ⟨by rw [cells_of_block h4]; rfl, by rw [cells_of_block h4]; rfl, frozen_of h4 0, frozen_of h4 1, h4⟩
            have hbw2 : Below w.heap.size w w2 := hbwA.trans (hbel2.mono hbwA.size)
            rw [he] at ku hub
            obtain ⟨b, off, cp, hav⟩ := (hvA.out).some (by rintro rfl; simp at hgo; omega)
            have hvo : ∀ j, some b = some j → w.heap.size + 1 ≤ j ∧ j < w1.heap.size := fun j hj => by
              have := hv' j (by rw [hx]; simp only [nxD]; rw [hav]; exact hj)
              rw [hsz0] at this
              exact this
            have hBd := hvA.out.below (hbel2.mono (by omega))
            rw [hav] at hBd
            simp only [Value.slice.injEq, true_and] at hav
            obtain ⟨rfl, rfl⟩ := hav
            have hdr := hBd.drop m hgo.1
            obtain ⟨a, ha⟩ : ∃ a, (if cv = m then some (⟨b, off, none⟩ : Addr) else some ⟨b, off + m, none⟩) = some a := by split <;> exact ⟨_, rfl⟩
            have hab : a.block = b := by
              split at ha <;> (cases ha; rfl)
            rw [ha] at hdr
            have fin := fun w4 h1 h2 h3 h4 => fin1 w4 ⟨N', d.drop m⟩ n (.slice (some a) (d.length - m) (cv - m)) h1 h2 h3 h4
            have hdm : Hid (d.length - m ≤ d.length) := by show _ ≤ _; omega
            have q1 : IntKind.i64.wrap ((d.length : Int) - (m : Int)) = (d.length : Int) - (m : Int) := IntWalk.i64_in _ (by omega)
            have hm5 : d.length ≤ cv := hv2
            have hm3 : (d.length : Int) ≤ (cv : Int) := by omega
            have hHid : Hid (d.length = (d.take m).length + (d.length - m)) := by show _ = _; rw [List.length_take]; omega
            have hfinS : ∀ w4, o = some (⟨N', d.drop m⟩, n) → Below w2.heap.size w2 w4 → _ := fun w4 ho hb4 => fin w4 ho (hbw2.trans (hb4.mono hbw2.size)) ((hdr.below (hb4.mono (by omega))).mono (by have := hb4.size; omega)) (fun j hj => by
              have := hvo j (by rw [← hab]; exact hj)
              have := hb4.size
              omega)
            have hfin0 : ∀ w4, o = none → Below w2.heap.size w2 w4 → _ := fun w4 ho hb4 => fin0 w4 ho (hbw2.trans (hb4.mono hbw2.size))
            clear he HO hiff hback hr H fin fin0 fin1 hdr hBd hB2 hv5 hvA
            generalize d.take m = L at *
            go_wp2
            go_region_held (fun w' => (convert 32 9 (.slice (some ⟨b, off, none⟩) m cv)).run Tryz.prog w' = .ok (.string (str L)) w' ∧ w'.cell? ⟨w1.heap.size, 1, none⟩ = some (.slice (some ⟨b, off, none⟩) d.length cv))
              (first | go_keep | exact x4 | exact ⟨hS _ hd2, hC _ hd2⟩)
              (first | (go_at_call 52; refine ku.mono ?_; rintro e w4 ⟨v4, rfl, hO4, hb4⟩; have hbel4 := hd2.trans hb4; have x4 := And.intro (hS _ hbel4) (hC _ hbel4); have c4 := str_of hO4.bs hlt))
            have hC4 := hC _ hbel4
            obtain ⟨c0, c1, f0, f1, hblk4⟩ := hX w4 hbel4
            have hF0 := fun ho => hfin0 w4 ho hbel4
            have hF1 := fun ho => hfinS w4 ho hbel4
            clear hfin0 hfinS hX hC hS x4 c4
            by_cases hN0 : N' = 0
            · have hF := hF0 (by rw [hone, if_pos (.inl hN0)])
              subst hN0
              clear hF0 hF1 hone
              go_wp2
              (try simp only [Exit.inBlock, Exit.then])
              refine bodyPost_ret (results_rec2 rfl _ _ w.heap.size _ _ rfl (rec_set hblk4.out _ _)) rfl ?_
              exact hF.out
            · have hNi : ((N' : Int) == 0) = false := by simp; omega
              have hNj : ¬ (N' : Int) = 0 := by omega
              by_cases hbig : 4096 < d.length - m
              · have hF := hF0 (by rw [hone, if_pos (.inr hbig)])
                have hbi : (4096 : Int) < (d.length : Int) - (m : Int) := by omega
                clear hF0 hF1 hone
                go_wp2
                (try simp only [Exit.inBlock, Exit.then])
                refine bodyPost_ret (results_rec2 rfl _ _ w.heap.size _ _ rfl (rec_set hblk4.out _ _)) rfl ?_
                exact hF.out
              · have hF := hF1 (by rw [hone, if_neg (by omega)])
                have hbi : ¬ (4096 : Int) < (d.length : Int) - (m : Int) := by omega
                clear hF0 hF1 hone
                go_wp2
                (try simp only [Exit.inBlock, Exit.then])
                refine bodyPost_ret (results_rec2 rfl _ _ w.heap.size _ _ rfl (rec_set hblk4.out _ _)) rfl ?_
                exact hF.out
          · have hst := str_ne hub hlt he
            have hst2 : ¬ (str (uv N)).toList = (str (d.take m)).toList := fun h => by rw [h] at hst; simp at hst
            have H' : Hid (∀ j N, j < m + 1 → rd 10 0 0 d ≠ some (N, j)) := fun j M hj h => by
              by_cases hjn : j = m
              · subst hjn
                exact he (hback M h)
              · exact H.out j M (by omega) h
            clear H hiff hback he fin0 fin1
            generalize d.take m = L at *
            generalize uv N = U at *
            go_wp2
            go_region_held (fun w' => (convert 32 9 (.slice av m cv)).run Tryz.prog w' = .ok (.string (str L)) w' ∧ w'.cell? ⟨w1.heap.size, 1, none⟩ = some (.slice av d.length cv))
              (first | go_keep | exact x4 | exact ⟨hS _ hd2, hC _ hd2⟩)
              (first | (go_at_call 52; refine ku.mono ?_; rintro e w4 ⟨v4, rfl, hO4, hb4⟩; have hbel4 := hd2.trans hb4; have x4 := And.intro (hS _ hbel4) (hC _ hbel4); have c4 := str_of hO4.bs hub))
            go_wp2
            go_roundg (gk - 1)
            case measure => omega
            case rel => exact ⟨m + 1, by omega, by omega, by go_num, H', hbel2.trans (hbel4.mono hbel2.size)⟩
        · have hr : rd 10 0 0 d = none := rd_last hd hgo H.out
          have ho : o = none := by
            rw [HO.out]
            unfold one
            rw [hx]
            dsimp only
            rw [if_pos rfl, hr]
          have c0 : wr.cell? ⟨w.heap.size, 0, none⟩ = some (.int .u64 0) := by rw [cells_of_block hblkR]; rfl
          have c1 : wr.cell? ⟨w.heap.size, 1, none⟩ = some (.slice none 0 0) := by rw [cells_of_block hblkR]; rfl
          have f0 := frozen_of hblkR 0
          have f1 := frozen_of hblkR 1
          have hfin := fin0 wr ho hbR
          have hend : (¬ (m : Int) ≤ (d.length : Int)) ∨ ((m : Int) ≤ (d.length : Int) ∧ ¬ (m : Int) ≤ 10) := by
            by_cases h : (m : Int) ≤ (d.length : Int)
            · exact .inr ⟨h, fun h' => hgo ⟨by omega, by omega⟩⟩
            · exact .inl h
          have hblk4 : Hid (wr.heap[w.heap.size]? = _) := hblkR
          clear H HO hr hgo fin0 fin1 hblkR hblkI
          rcases hend with h | ⟨h, h'⟩ <;>
          (go_wp2
           (try simp only [Exit.inBlock, Exit.then])
           refine bodyPost_ret (results_rec2 rfl _ _ w.heap.size _ _ rfl (rec_set hblk4.out _ _)) rfl ?_
           exact hfin.out)
    · have ho : o = none := by rw [HO.out]; unfold one; rw [hx]; simp [hk]
      have hki : ¬ (k : Int) = 1 := by omega
      have hkj : ((k : Int) != 1) = true := by simp; omega
      have hfin := fin0 W1 ho hbwA
      have hblk' : Hid (W1.heap[w.heap.size]? = _) := hblk2
      clear HO hB hB' hv' fin0 fin1 hblk2 hbI hblk hbA
      go_wp2
      (try simp only [Exit.inBlock, Exit.then])
      refine bodyPost_ret (results_rec2 rfl _ _ w.heap.size _ _ rfl (rec_set hblk'.out _ _)) rfl ?_
      exact hfin.out
end Go.Proofs.YtgfoogeiancecaaGreatDoor.Fr


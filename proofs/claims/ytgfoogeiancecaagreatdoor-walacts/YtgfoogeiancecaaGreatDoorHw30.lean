import Derived.Test.YtgfoogeiancecaaGreatDoorHw18
import Derived.Test.YtgfoogeiancecaaGreatDoorHw19
import Derived.Test.YtgfoogeiancecaaGreatDoorHw29
import Derived.Test.YtgfoogeiancecaaGreatDoorHw23
/- The contract of the program's filesOf: of a disk's segments their numbers and bytes. -/
namespace Go.Proofs.YtgfoogeiancecaaGreatDoor
open Go.RowKit DiskMath
set_option maxRecDepth 100000
set_option linter.unusedSimpArgs false
set_option linter.unusedVariables false

/-- Files are these segments. -/
def SegFs (fs : Files) (l : List (Nat × List Nat)) : Prop := fs.length = l.length ∧ ∀ (i : Nat) (f : File) (x : Nat × List Nat), fs[i]? = some f → l[i]? = some x → f.name = segName x.1 ∧ f.data = x.2

/-- Numbers and bytes as cells. -/
def nf2 (l : List (Nat × List Nat)) (cs : List Value) : List (Value × Value) := List.zipWith (fun x c => (.int .i64 (x.1 : Int), c)) l cs
theorem nf2_get {l : List (Nat × List Nat)} {cs : List Value} {i : Nat} {x : Nat × List Nat} {c : Value} (h1 : l[i]? = some x) (h2 : cs[i]? = some c) : (nf2 l cs)[i]? = some (.int .i64 (x.1 : Int), c) := by
  simp [nf2, List.getElem?_zipWith, h1, h2]
theorem nf2_length {l : List (Nat × List Nat)} {cs : List Value} (h : cs.length = l.length) : (nf2 l cs).length = l.length := by
  simp [nf2, h]
theorem nf2_snoc {l : List (Nat × List Nat)} {cs : List Value} {i : Nat} {x : Nat × List Nat} {c : Value} (h1 : l[i]? = some x) (h2 : cs[i]? = some c) : (nf2 l cs).take (i + 1) = (nf2 l cs).take i ++ [(.int .i64 (x.1 : Int), c)] := by
  have h := nf2_get h1 h2
  have hi := (List.getElem?_eq_some_iff.1 h).1
  rw [List.take_succ_eq_append_getElem hi]
  rw [List.getElem?_eq_getElem hi] at h
  rw [Option.some.inj h]

theorem R2.nf {w w0 : World} {v : Value} {l : List (Nat × List Nat)} {cs : List Value} {n₀ : Nat} (h : R2 w 105 v (nf2 l cs)) (hc : cs.length = l.length) (hO : ∀ (i : Nat) (c : Value) (x : Nat × List Nat), cs[i]? = some c → l[i]? = some x → Own n₀ w0 c x.2) (hb : Below w0.heap.size w0 w) : Nf w v l := by
  letI := keepAll
  obtain ⟨ao, cap, e, -⟩ := h.shape
  refine ⟨ao, cap, by rw [e, nf2_length hc], fun i x hx => ?_⟩
  have hi := (List.getElem?_eq_some_iff.1 hx).1
  have hci := List.getElem?_eq_getElem (show i < cs.length by omega)
  have hx' := nf2_get hx hci
  obtain ⟨g, cp, e2, -, -, -, hcell, -⟩ := h.cells (by intro h0; rw [h0] at hx'; simp at hx')
  rw [e] at e2
  simp only [Value.slice.injEq] at e2
  have hOi := hO i _ x hci hx
  refine ⟨g, 0, cs[i], e2.1, by rw [Nat.zero_add]; exact (hcell i _ hx').1, by rw [Nat.zero_add]; exact (hcell i _ hx').2, ((hOi.bs (Nat.zero_le _)).below hb).mono hb.size, ?_⟩
  obtain ⟨_, ⟨h1, _⟩ | ⟨g, cap, cur, h1, _⟩⟩ := hOi
  · exact .inl h1
  · exact .inr ⟨g, _, cap, h1⟩

/-- A row's slice, from its beginning. -/
def Sh (v : Value) (n : Nat) : Prop := (v = .slice none 0 0 ∧ n = 0) ∨ ∃ g cap, v = .slice (some ⟨g, 0, none⟩) n cap ∧ n ≤ cap ∧ cap ≤ maxLen
theorem R2.sh {w : World} {t : TypeId} {v : Value} {xs : List (Value × Value)} (h : R2 w t v xs) : Sh v xs.length := by
  obtain ⟨-, ⟨r1, r2⟩ | ⟨g, cp, cur, r1, -, -, r2, r3, -⟩⟩ := h
  · exact .inl ⟨r1, r2⟩
  · exact .inr ⟨g, cp, r1, r2, r3⟩
/-- What an append to the files leaves. -/
def FoN (w : World) (xs : List (Value × Value)) (v' : Value) (w' : World) : Prop := R2 w' 105 v' xs ∧ (∀ k, v'.ownBlock = some k → w.heap.size ≤ k) ∧ Below w.heap.size w w'

set_option maxHeartbeats 4000000 in
theorem filesOf_of (n₀ : Nat) (fs : Files) (l : List (Nat × List Nat)) (ov : Value) (w : World) (hF : Fw n₀ w ov fs) (hs : SegFs fs l) (hn : ∀ x ∈ l, 0 < x.1 ∧ x.1 < 100000000) (hr : Rising l) (hl : l.length < 20) :
    Calls Tryz.prog 57 #[ov] w fun e w' => ∃ v, e = .returned v ∧ Nf w' v l ∧ Sh v l.length ∧ Below w.heap.size w w' := by
  obtain ⟨ao, cap, rfl⟩ := hF.shape
  obtain ⟨cs, hrow, hcl, hn0, hel⟩ := hF
  have hcl' : cs.length = l.length := by rw [hcl]; exact hs.1
  have hO : ∀ (i : Nat) (c : Value) (x : Nat × List Nat), cs[i]? = some c → l[i]? = some x → Own n₀ w c x.2 := fun i c x h1 h2 => by
    have hi := (List.getElem?_eq_some_iff.1 h2).1
    have hf := List.getElem?_eq_getElem (show i < fs.length by rw [hs.1]; exact hi)
    have := (hel i c _ h1 hf).1
    rw [(hs.2 i _ x hf h2).2] at this
    exact this
  have hlen : Hid (fs.length = l.length) := hs.1
  go_enter Tryz.func57, Tryz.ntmps57
  go_wp2
  go_loopg [3, 10] fs.length (fun g s3 s10 wr => ∃ i : Nat, i + g = fs.length ∧ s10 = .int .i64 (i : Int) ∧ R2 wr 105 s3 ((nf2 l cs).take i) ∧ (∀ k, s3.ownBlock = some k → w.heap.size ≤ k) ∧ Below w.heap.size w wr)
  case atStart => exact ⟨0, by simp, rfl, R2.nil _ _, (fun k hk => by cases hk), Below.refl _ _⟩
  case round =>
    obtain ⟨i, hi, rfl, hR, hk3, hbr⟩ := hrel
    by_cases hlt : i < fs.length
    · have hlti : (i : Int) < (fs.length : Int) := by omega
      have hf := List.getElem?_eq_getElem hlt
      have hil : i < l.length := by have := hlen.out; omega
      have hx := List.getElem?_eq_getElem hil
      have hc := List.getElem?_eq_getElem (show i < cs.length by omega)
      have hnm := (hs.2 i _ _ hf hx).1
      have hxn := hn l[i] (List.getElem_mem _)
      have htk : Hid ((nf2 l cs).take (i + 1) = _) := nf2_snoc hx hc
      obtain ⟨g, cp, e, _, hcell⟩ := row_cell hrow (by omega)
      cases e
      obtain ⟨c0, c1, c2⟩ := fcells_get fs cs i _ _ hf hc
      have d0 := hcell _ _ c0
      have d1 := hcell _ _ c1
      have d2 := hcell _ _ c2
      have hOi := hO i _ _ hc hx
      rw [hnm] at d0
      generalize fs[i] = f at *
      generalize l[i] = x at *
      generalize cs[i] = sv at *
      have hgl := World.block_lt_of_cell? w _ d0
      rw [Nat.zero_add, Nat.mul_comm] at d0 d1 d2
      have d0' := (hbr.cell (p := ⟨g, i * 3, none⟩) hgl).trans d0
      have d1' := (hbr.cell (p := ⟨g, i * 3 + 1, none⟩) hgl).trans d1
      have d2' := (hbr.cell (p := ⟨g, i * 3 + 2, none⟩) hgl).trans d2
      have kn := fun W => numberOf_of x.1 W hxn.2 hxn.1
      have hs1 : sv.oneCell' = true := by
        obtain ⟨ao, cap, rfl⟩ := hOi.shape
        rfl
      obtain ⟨sa, sc, rfl⟩ := hOi.shape
      have hb5 : Below wr.heap.size wr (wr.alloc (.cells #[.string (segName x.1), .slice sa x.2.length sc, .int .i64 (f.safe : Int)] 71)) := (Below.refl _ _).alloc (Nat.le_refl _) _
      have hbx := heap_alloc_new wr (.cells #[.string (segName x.1), .slice sa x.2.length sc, .int .i64 (f.safe : Int)] 71)
      obtain ⟨a3, c3, e3, -⟩ := hR.shape
      have hkp : ∀ W, Below wr.heap.size wr W → ∀ ty, ∃ v' w', (Builtin.append_ #[100, 100] ty #[u3, .slice (some ⟨W.heap.size, 0, none⟩) 1 1]).run Tryz.prog (W.alloc (.cells #[.int .i64 (x.1 : Int), .slice sa x.2.length sc] 105)) = .ok v' w' ∧ FoN w ((nf2 l cs).take (i + 1)) v' w' := fun W hb ty => by
        obtain ⟨v', w', r1, r2, r3, r4⟩ := push_file W ty u3 _ (.int .i64 (x.1 : Int), .slice sa x.2.length sc) (hR.same fun k hk => hb.block k (hR.lt hk)) (by rw [List.length_take]; omega) rfl rfl
        refine ⟨v', w', r1, by rw [htk.out]; exact r2, fun k hk => ?_, ?_⟩
        · rcases r4 k hk with h | h
          · exact hk3 k h
          · exact Nat.le_trans hbr.size (Nat.le_trans hb.size h)
        · exact (hbr.trans (hb.mono hbr.size)).grown r3 (Nat.le_trans hbr.size hb.size) hk3
      have hlb : wr.heap.size < (wr.alloc (.cells #[.string (segName x.1), .slice sa x.2.length sc, .int .i64 (f.safe : Int)] 71)).heap.size := by simp
      have hkey : ∀ w2, Below (wr.alloc (.cells #[.string (segName x.1), .slice sa x.2.length sc, .int .i64 (f.safe : Int)] 71)).heap.size (wr.alloc (.cells #[.string (segName x.1), .slice sa x.2.length sc, .int .i64 (f.safe : Int)] 71)) w2 → Hid ((∀ ty, ∃ v' w', (Builtin.append_ #[100, 100] ty #[u3, .slice (some ⟨w2.heap.size, 0, none⟩) 1 1]).run Tryz.prog (w2.alloc (.cells #[.int .i64 (x.1 : Int), .slice sa x.2.length sc] 105)) = .ok v' w' ∧ FoN w ((nf2 l cs).take (i + 1)) v' w') ∧ w2.cell? ⟨wr.heap.size, 1, none⟩ = some (.slice sa x.2.length sc)) := fun w2 hb2 => ⟨hkp w2 (hb5.trans (hb2.mono hb5.size)), by rw [cells_of_block ((hb2.block wr.heap.size hlb).trans hbx)]; rfl⟩
      have hRH : Hid (R2 wr 105 u3 ((nf2 l cs).take i)) := hR
      obtain ⟨n3, hn3⟩ : ∃ n, Hid (n = ((nf2 l cs).take i).length) := ⟨_, rfl⟩
      rw [← hn3.out] at e3
      subst e3
      clear hkp hb5 hbx hR hrow hcell hel hO hs hn hr hf hx hc c0 c1 c2 d0 d1 d2 hOi hlb hs1
      go_wp2_with fail
      refine (kn _).mono ?_
      rintro e w2 ⟨rfl, hb2⟩
      obtain ⟨kp, e1⟩ := (hkey w2 hb2).out
      clear hkey hb2 kn
      go_wp2_with (at_builtin; refine wp_by rfl _ _ _ rfl _ _ rfl rfl kp ?_)
      intro v6 w6 hN6
      obtain ⟨hR6, hk6, hb6⟩ := id hN6
      clear hN6 kp
      go_wp2
      go_roundg (gk - 1)
      case measure => omega
      case rel => exact ⟨i + 1, by omega, by go_num, hR6, hk6, hb6⟩
    · have hlti : ¬ (i : Int) < (fs.length : Int) := by omega
      rw [List.take_of_length_le (by rw [nf2_length hcl']; have := hlen.out; omega)] at hR
      have hN : Nf wr u3 l := R2.nf hR hcl' hO hbr
      have hSh : Hid (Sh u3 l.length) := by
        have := R2.sh hR
        rw [nf2_length hcl'] at this
        exact this
      have ks := sortStable_of l u3 wr hN hr hl
      clear hR
      go_wp2_with fail
      refine ks.mono ?_
      rintro e w2 ⟨rfl, hb2⟩
      have hN2 := hN.below hb2
      have kc := compact_of l u3 w2 hN2 hr (by omega)
      obtain ⟨a3, c3, rfl, -⟩ := id hN2
      clear ks hN
      go_wp2_with fail
      refine kc.mono ?_
      rintro e w3 ⟨rfl, hb3⟩
      have hN3 := hN2.below hb3
      have hb13 := hbr.trans ((hb2.trans (hb3.mono hb2.size)).mono hbr.size)
      clear hN2 kc
      go_wp2
      go_ret
      exact ⟨_, rfl, hN3, hSh.out, hb13⟩
end Go.Proofs.YtgfoogeiancecaaGreatDoor

/- A log in memory over its disk; its last segment; whether a disk was given. -/
namespace Go.Proofs.YtgfoogeiancecaaGreatDoor
open Go.RowKit WalMath DiskMath
set_option maxRecDepth 100000
set_option linter.unusedSimpArgs false
set_option linter.unusedVariables false

/-- The log at block q, its disk d, its segments' row at sv. -/
structure WalAt (σ : Wm) (w : World) (q : Nat) (d sv : Value) (sg : List Seg) : Prop where
  block : w.heap[q]? = some (.cells #[d, sv] 56 (0, 0))
  segs : SegsAt σ w sv sg
  mark : σ q = (1, 0)
theorem WalAt.same {σ σ' : Wm} {w w' : World} {q : Nat} {d sv : Value} {sg : List Seg} (h : WalAt σ w q d sv sg) (hs : ∀ b, (σ b).1 ≠ 0 → w'.heap[b]? = w.heap[b]?) (hσ : ∀ b, (σ b).1 ≠ 0 → σ' b = σ b) (hlt : ∀ b, (σ' b).1 ≠ 0 → b < w'.heap.size) : WalAt σ' w' q d sv sg :=
  ⟨(hs q (by rw [h.mark]; simp)).trans h.block, h.segs.same hs hσ hlt, (hσ q (by rw [h.mark]; simp)).trans h.mark⟩
theorem WalAt.below {σ : Wm} {w w' : World} {q : Nat} {d sv : Value} {sg : List Seg} (h : WalAt σ w q d sv sg) (hb : Below w.heap.size w w') : WalAt σ w' q d sv sg :=
  h.same (fun b hm => hb.block b (h.segs.lt b hm)) (fun _ _ => rfl) fun b hm => Nat.lt_of_lt_of_le (h.segs.lt b hm) hb.size
theorem WalAt.kept {σ : Wm} {S : Nat → Prop} {w w' : World} {q : Nat} {d sv : Value} {sg : List Seg} (h : WalAt σ w q d sv sg) (hk : Kept S w w') (hS : ∀ b, S b → (σ b).1 = 0) : WalAt σ w' q d sv sg :=
  h.same (fun b hm => hk.block b (h.segs.lt b hm) fun hs => hm (hS b hs)) (fun _ _ => rfl) fun b hm => Nat.lt_of_lt_of_le (h.segs.lt b hm) hk.size

/-- A log over its disk: all its blocks are of U. -/
structure Lg (U : Nat → Prop) (w : World) (v d : Value) (sg : List Seg) (fs : Files) : Prop where
  ex : ∃ S σ q sv, v = .pointer (some ⟨q, 0, none⟩) ∧ Dk S w d fs ∧ WalAt σ w q d sv sg ∧ (∀ b, S b → (σ b).1 = 0) ∧ ∀ b, U b ↔ S b ∨ (σ b).1 ≠ 0
theorem Lg.below {U : Nat → Prop} {w w' : World} {v d : Value} {sg : List Seg} {fs : Files} (h : Lg U w v d sg fs) (hb : Below w.heap.size w w') : Lg U w' v d sg fs := by
  obtain ⟨S, σ, q, sv, h1, h2, h3, h4, h5⟩ := h.ex
  exact ⟨S, σ, q, sv, h1, diskOf.below h2 hb, h3.below hb, h4, h5⟩
theorem Lg.lt {U : Nat → Prop} {w : World} {v d : Value} {sg : List Seg} {fs : Files} (h : Lg U w v d sg fs) : ∀ b, U b → b < w.heap.size := by
  obtain ⟨S, σ, q, sv, h1, h2, h3, h4, h5⟩ := h.ex
  intro b hb
  rcases (h5 b).1 hb with hb | hb
  · exact diskOf.lt h2 b hb
  · exact h3.segs.lt b hb
theorem Lg.kept {U : Nat → Prop} {w w' : World} {v d : Value} {sg : List Seg} {fs : Files} (h : Lg U w v d sg fs) (hsz : w.heap.size ≤ w'.heap.size) (hs : ∀ b, U b → w'.heap[b]? = w.heap[b]?) : Lg U w' v d sg fs := by
  obtain ⟨S, σ, q, sv, h1, h2, h3, h4, h5⟩ := h.ex
  exact ⟨S, σ, q, sv, h1, diskOf.kept h2 hsz fun b hb => hs b ((h5 b).2 (.inl hb)), h3.same (fun b hb => hs b ((h5 b).2 (.inr hb))) (fun _ _ => rfl) fun b hb => Nat.lt_of_lt_of_le (h3.segs.lt b hb) hsz, h4, h5⟩

/-- What is left: a log with these segments and files; all else is as it was. -/
def LgN (U : Nat → Prop) (w : World) (v d : Value) (sg : List Seg) (fs : Files) (w' : World) : Prop := ∃ U', Lg U' w' v d sg fs ∧ Step U U' w ∧ Kept U w w'

theorem Kept.refl (S : Nat → Prop) (w : World) : Kept S w w := ⟨rfl, rfl, rfl, Nat.le_refl _, fun _ _ _ => rfl⟩
theorem Kept.trans {S S' : Nat → Prop} {w w1 w2 : World} (h : Kept S w w1) (hs : Step S S' w) (k : Kept S' w1 w2) : Kept S w w2 :=
  ⟨k.os.trans h.os, k.tape.trans h.tape, k.output.trans h.output, Nat.le_trans h.size k.size, fun b hb hns => (k.block b (Nat.lt_of_lt_of_le hb h.size) (fun hb' => (hs b hb').elim hns fun h' => by omega)).trans (h.block b hb hns)⟩
theorem Step.trans {S S' S'' : Nat → Prop} {w w1 : World} (h : Step S S' w) (hsz : w.heap.size ≤ w1.heap.size) (k : Step S' S'' w1) : Step S S'' w := fun b hb => (k b hb).elim (h b) fun h' => .inr (Nat.le_trans hsz h')
theorem LgN.refl {U : Nat → Prop} {w : World} {v d : Value} {sg : List Seg} {fs : Files} (h : Lg U w v d sg fs) : LgN U w v d sg fs w := ⟨U, h, fun _ hb => .inl hb, Kept.refl _ _⟩
theorem LgN.below {U : Nat → Prop} {w w' : World} {v d : Value} {sg : List Seg} {fs : Files} (h : Lg U w v d sg fs) (hb : Below w.heap.size w w') : LgN U w v d sg fs w' := ⟨U, h.below hb, fun _ hb => .inl hb, Below.kept hb⟩
theorem LgN.trans {U U' : Nat → Prop} {w w1 w2 : World} {v d : Value} {sg : List Seg} {fs : Files} (hs : Step U U' w) (hk : Kept U w w1) (h : LgN U' w1 v d sg fs w2) : LgN U w v d sg fs w2 := by
  obtain ⟨U'', h1, h2, h3⟩ := h
  exact ⟨U'', h1, hs.trans hk.size h2, hk.trans hs h3⟩
/-- The disk was acted with: the log lies as it lay. -/
theorem Lg.disk {U S S' : Nat → Prop} {σ : Wm} {w w' : World} {q : Nat} {d sv : Value} {sg : List Seg} {fs : Files} (hW : WalAt σ w q d sv sg) (hS : ∀ b, S b → (σ b).1 = 0) (hU : ∀ b, U b ↔ S b ∨ (σ b).1 ≠ 0) (hD : Dk S' w' d fs) (hs : Step S S' w) (hk : Kept S w w') : LgN U w (.pointer (some ⟨q, 0, none⟩)) d sg fs w' := by
  refine ⟨fun b => S' b ∨ (σ b).1 ≠ 0, ⟨S', σ, q, sv, rfl, hD, hW.kept hk hS, fun b hb => ?_, fun b => Iff.rfl⟩, fun b hb => ?_, ⟨hk.os, hk.tape, hk.output, hk.size, fun b hb hn => hk.block b hb fun h => hn ((hU b).2 (.inl h))⟩⟩
  · rcases hs b hb with h | h
    · exact hS b h
    · by_cases h0 : (σ b).1 = 0
      · exact h0
      · have := hW.segs.lt b h0
        omega
  · rcases hb with hb | hb
    · exact (hs b hb).imp (fun h => (hU b).2 (.inl h)) id
    · exact .inl ((hU b).2 (.inr hb))

set_option maxHeartbeats 1000000 in
theorem end_of (q g n m cap : Nat) (d : Value) (w : World) (h1 : w.cell? ⟨q, 1, none⟩ = some (.slice (some ⟨g, 0, none⟩) n cap)) (hn : n = m + 1) (hn2 : n ≤ 1000) :
    Calls Tryz.prog 27 #[.pointer (some ⟨q, 0, none⟩)] w fun e w' => e = .returned (.pointer (some ⟨g, m * 2, none⟩)) ∧ ∃ k, w' = w.drewN k := by
  have hmn : (m : Int) < (n : Int) := by omega
  have hmn2 : m < n := by omega
  have q1 : IntKind.i64.wrap ((n : Int) - 1) = (m : Int) := by
    rw [show (n : Int) - 1 = (m : Int) by omega]
    exact IntWalk.i64_in _ (by omega)
  clear hn
  go_enter Tryz.func27, Tryz.ntmps27
  go_wp2
  go_quiet (fail)
  go_wp2
  go_ret
  exact ⟨rfl, nq, rfl⟩

theorem noName_get {fs : Files} (h : SoundF fs) : get fs noName = none := by
  cases hg : get fs noName with
  | none => rfl
  | some f =>
    have := (may_size (sound_get h hg).1).1
    exact absurd this (by decide)

set_option maxHeartbeats 1000000 in
theorem wgiven_of {S : Nat → Prop} {w : World} {d : Value} {fs : Files} (h : Dk S w d fs) : Calls Tryz.prog 21 #[d] w fun e w' => e = .returned (.bool true) ∧ ∃ S', Dk S' w' d fs ∧ Step S S' w ∧ Kept S w w' := by
  have hs := diskOf.sync noName (by decide) h
  have hd : dSync fs noName = (fs, 4) := by
    unfold dSync
    rw [noName_get (diskOf.sound h)]
  rw [hd] at hs
  change Calls _ _ #[d, .string ⟨#[]⟩] _ _ at hs
  clear hd
  obtain ⟨q, rfl⟩ := h.shape
  go_enter Tryz.func21, Tryz.ntmps21
  go_wp2_with fail
  refine hs.mono ?_
  rintro e w1 ⟨rfl, hx⟩
  go_wp2
  go_ret
  exact ⟨rfl, hx⟩
end Go.Proofs.YtgfoogeiancecaaGreatDoor

/- The contract of a log's awake, where its disk has what it had. -/
namespace Go.Proofs.YtgfoogeiancecaaGreatDoor
open Go.RowKit WalMath DiskMath
set_option maxRecDepth 100000
set_option linter.unusedSimpArgs false
set_option linter.unusedVariables false

/-- The disk has the last segment as the log has it. -/
def Cons (sg : List Seg) (fs : Files) : Prop := sg.length ≤ 1000 ∧ ∀ (m : Nat) (s : Seg), sg.length = m + 1 → sg[m]? = some s → s.num < 100000000 ∧ s.recs.length ≤ 100000 ∧ ∃ f, get fs (segName s.num) = some f ∧ f.data.length = sz s.recs
theorem segName_max (n : Nat) : (segName n).size ≤ maxLen := by rw [segName_size]; decide

/-- The small contracts at the last segment, over any later world. -/
structure LastK (w : World) (q g m : Nat) (d pv : Value) (s : Seg) (fs : Files) (n cap : Nat) : Prop where
  cells : ∀ W, Below w.heap.size w W → W.cell? ⟨q, 0, none⟩ = some d ∧ W.cell? ⟨q, 1, none⟩ = some (.slice (some ⟨g, 0, none⟩) n cap) ∧ W.cell? ⟨g, m * 2, none⟩ = some (.int .i64 (s.num : Int)) ∧ W.cell? ⟨g, m * 2 + 1, none⟩ = some pv
  kend : ∀ W, Below w.heap.size w W → Calls Tryz.prog 27 #[.pointer (some ⟨q, 0, none⟩)] W fun e w' => e = .returned (.pointer (some ⟨g, m * 2, none⟩)) ∧ Below w.heap.size w w'
  kname : ∀ W, Below w.heap.size w W → Calls Tryz.prog 28 #[.agg #[.int .i64 (s.num : Int), pv]] W fun e w' => e = .returned (.string (segName s.num)) ∧ Below w.heap.size w w'
  ksize : ∀ W, Below w.heap.size w W → Calls Tryz.prog 60 #[.agg #[.int .i64 (s.num : Int), pv]] W fun e w' => e = .returned (.int .i64 (sz s.recs : Int)) ∧ Below w.heap.size w w'
theorem last_k {σ : Wm} {w : World} {q : Nat} {d sv : Value} {sg : List Seg} {fs : Files} (hT : Tb w) (hW : WalAt σ w q d sv sg) (hln : sg.length ≤ 1000) {m : Nat} {s : Seg} (hm : sg.length = m + 1) (hs : sg[m]? = some s) (hnum : s.num < 100000000) (hrl : s.recs.length ≤ 100000) :
    ∃ g cap pv, sv = .slice (some ⟨g, 0, none⟩) sg.length cap ∧ sg.length ≤ cap ∧ cap ≤ maxLen ∧ (∃ a n c, pv = .slice a n c) ∧ LastK w q g m d pv s fs sg.length cap := by
  obtain ⟨g, cap, e, h1, h2, h3, h4, h5, h6⟩ := hW.segs.cells (by intro e; rw [e] at hm; cases hm)
  obtain ⟨pv, c1, c2, c3, c4⟩ := h6 m s hs
  obtain ⟨pa, pc, pe, -⟩ := c3.shape
  have hcells : ∀ W, Below w.heap.size w W → W.cell? ⟨q, 0, none⟩ = some d ∧ W.cell? ⟨q, 1, none⟩ = some (.slice (some ⟨g, 0, none⟩) sg.length cap) ∧ W.cell? ⟨g, m * 2, none⟩ = some (.int .i64 (s.num : Int)) ∧ W.cell? ⟨g, m * 2 + 1, none⟩ = some pv := fun W hb => by
    have hbk := (hb.block q (hW.segs.lt q (by rw [hW.mark]; simp))).trans hW.block
    exact ⟨by rw [cells_of_block hbk]; rfl, by rw [cells_of_block hbk, ← e]; rfl, (hb.cell (p := ⟨g, m * 2, none⟩) (World.block_lt_of_cell? w _ c1)).trans c1, (hb.cell (p := ⟨g, m * 2 + 1, none⟩) (World.block_lt_of_cell? w _ c2)).trans c2⟩
  refine ⟨g, cap, pv, e, h1, h2, ⟨pa, _, pc, pe⟩, hcells, fun W hb => ?_, fun W hb => ?_, fun W hb => ?_⟩
  · refine (end_of q g sg.length m cap d W (hcells W hb).2.1 hm hln).mono ?_
    rintro e w' ⟨h, k, rfl⟩
    exact ⟨h, below_drewN hb k⟩
  · refine (sname_of s.num pv W (hT.new hb) hnum).mono ?_
    rintro e w' ⟨h, hb'⟩
    exact ⟨h, hb.trans (hb'.mono hb.size)⟩
  · have := ssize_of (s.num : Int) pv _ W (c3.pv.below hb) (by rw [plc_length]; omega)
    rw [endI_all] at this
    refine this.mono ?_
    rintro e w' ⟨h, hb'⟩
    exact ⟨h, hb.trans (hb'.mono hb.size)⟩
/-- The disk's own answer for the last segment. -/
theorem last_read {S : Nat → Prop} {w : World} {d : Value} {sg : List Seg} {fs : Files} (hD : Dk S w d fs) (hc : Cons sg fs) {m : Nat} {s : Seg} (hm : sg.length = m + 1) (hs : sg[m]? = some s) :
    ∀ W, Below w.heap.size w W → Calls Tryz.prog 59 #[d, .string (segName s.num)] W fun e w' => ∃ a c, e = .returned (.tuple #[.slice a (sz s.recs) c, .bool true]) ∧ Below w.heap.size w w' := fun W hb => by
  obtain ⟨hnum, hrl, f, hf, hfl⟩ := hc.2 m s hm hs
  refine (dread_of (segName s.num) (segName_max _) (diskOf.below hD hb)).mono ?_
  rintro e w' ⟨v, l, h, hO, hb', hl⟩
  rw [hf] at h hl
  obtain ⟨a, c, rfl⟩ := hO.shape
  subst hl
  refine ⟨a, c, ?_, hb.trans (hb'.mono hb.size)⟩
  rw [h]
  show _ = Ending.returned (.tuple #[.slice a (sz s.recs) c, .bool true])
  rw [← hfl]
  rfl

set_option maxHeartbeats 4000000 in
theorem wawake_of {S : Nat → Prop} {σ : Wm} {w : World} {q : Nat} {d sv : Value} {sg : List Seg} {fs : Files} (hT : Tb w) (hD : Dk S w d fs) (hW : WalAt σ w q d sv sg) (hc : Cons sg fs) :
    Calls Tryz.prog 23 #[.pointer (some ⟨q, 0, none⟩)] w fun e w' => e = .returned (.bool true) ∧ Below w.heap.size w w' := by
  obtain ⟨dq, rfl⟩ := hD.shape
  cases hl : sg.length with
  | zero =>
    obtain ⟨a, c, rfl, -⟩ := hW.segs.shape
    rw [hl] at hW
    have c0 : w.cell? ⟨q, 0, none⟩ = some (.pointer (some ⟨dq, 0, none⟩)) := by rw [cells_of_block hW.block]; rfl
    have c1 : w.cell? ⟨q, 1, none⟩ = some (.slice a 0 c) := by rw [cells_of_block hW.block]; rfl
    clear hW hD hT hc
    go_enter Tryz.func23, Tryz.ntmps23
    go_wp2
    go_ret
    exact ⟨rfl, Below.refl _ _⟩
  | succ m =>
    have hs := List.getElem?_eq_getElem (show m < sg.length by omega)
    generalize sg[m] = s at *
    obtain ⟨hnum, hrl, -⟩ := hc.2 m s hl hs
    obtain ⟨g, cap, pv, rfl, -, -, ⟨pa, pn, pc, rfl⟩, hK⟩ := last_k (fs := fs) hT hW hc.1 hl hs hnum hrl
    have kread := last_read hD hc hl hs
    have hlen := hc.1
    rw [hl] at hK hlen
    obtain ⟨c0, c1, -, -⟩ := hK.cells w (Below.refl _ _)
    have hdr : Below w.heap.size w w.drew := (Below.refl _ _).drew
    have y0 := hK.cells _ hdr
    obtain ⟨hcs, kend, kname, ksize⟩ := hK
    obtain ⟨Z, hZ⟩ : ∃ Z, Hid (Z = sz s.recs) := ⟨_, rfl⟩
    rw [← hZ.out] at ksize kread
    have hm0 : (0 : Int) < ((m + 1 : Nat) : Int) := by omega
    have hm1 : 0 < m + 1 := by omega
    have q1 : ((Z : Int) != (Z : Int)) = false := by simp
    generalize m + 1 = n at *
    clear hW hD hT hc hs hl
    go_enter Tryz.func23, Tryz.ntmps23
    go_wp2
    go_region_held3 (fun w' => w'.cell? ⟨q, 0, none⟩ = some (.pointer (some ⟨dq, 0, none⟩)) ∧ w'.cell? ⟨q, 1, none⟩ = some (.slice (some ⟨g, 0, none⟩) n cap) ∧ w'.cell? ⟨g, m * 2, none⟩ = some (.int .i64 (s.num : Int)) ∧ w'.cell? ⟨g, m * 2 + 1, none⟩ = some (.slice pa pn pc))
      (first | exact y0 | exact hcs _ b4 | exact hcs _ b3 | exact hcs _ b2 | go_keep)
      (first
        | (go_at_call 27; refine (kend _ hdr).mono ?_; rintro e w2 ⟨rfl, b2⟩)
        | (go_at_call 28; refine (kname _ b2).mono ?_; rintro e w3 ⟨rfl, b3⟩)
        | (go_at_call 59; refine (kread _ b3).mono ?_; rintro e w4 ⟨ra, rc, rfl, b4⟩))
    have k2 := kend _ b4
    clear kend kname kread y0
    go_wp2_with fail
    refine k2.mono ?_
    rintro e w5 ⟨rfl, b5⟩
    obtain ⟨-, -, e2, e3⟩ := hcs _ b5
    have k5 := ksize _ b5
    clear hcs ksize k2
    go_wp2_with fail
    refine k5.mono ?_
    rintro e w6 ⟨rfl, b6⟩
    clear k5
    go_wp2
    go_ret
    exact ⟨rfl, b6⟩
end Go.Proofs.YtgfoogeiancecaaGreatDoor


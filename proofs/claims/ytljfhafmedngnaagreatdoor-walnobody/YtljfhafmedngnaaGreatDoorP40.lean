import Derived.Test.YtljfhafmedngnaaGreatDoorP27
import Derived.Test.YtljfhafmedngnaaGreatDoorP22
import Derived.Test.YtljfhafmedngnaaGreatDoorP39
/- The contract of the program's filesOf: of a disk's segments their numbers and bytes. -/
namespace Go.Proofs.YtljfhafmedngnaaGreatDoor
open Go.RowKit DiskMath
set_option maxRecDepth 100000
set_option linter.unusedSimpArgs false
set_option linter.unusedVariables false

/-- Files are these segments. -/
def SegFs (fs : Files) (l : List (Nat × List Nat)) : Prop := fs.length = l.length ∧ ∀ (i : Nat) (f : File) (x : Nat × List Nat), fs[i]? = some f → l[i]? = some x → f.name = segName x.1 ∧ f.data = x.2

/-- Numbers and bytes as cells. -/
def nf2 (l : List (Nat × List Nat)) (cs : List Value) : List (Value × Value) := List.zipWith (fun x c => (.int .i64 (x.1 : Int), c)) l cs
theorem nf2_get {l : List (Nat × List Nat)} {cs : List Value} {i : Nat} {x : Nat × List Nat} {c : Value} (h1 : l[i]? = some x) (h2 : cs[i]? = some c) : (nf2 l cs)[i]? = some (.int .i64 (x.1 : Int), c) := by
  simp [nf2, List.getElem?_zipWith, h1, h2]
theorem nf2_length {l : List (Nat × List Nat)} {cs : List Value} (h : cs.length = l.length) : (nf2 l cs).length = l.length := by
  simp [nf2, h]
theorem nf2_snoc {l : List (Nat × List Nat)} {cs : List Value} {i : Nat} {x : Nat × List Nat} {c : Value} (h1 : l[i]? = some x) (h2 : cs[i]? = some c) : (nf2 l cs).take (i + 1) = (nf2 l cs).take i ++ [(.int .i64 (x.1 : Int), c)] := by
  have h := nf2_get h1 h2
  have hi := (List.getElem?_eq_some_iff.1 h).1
  rw [List.take_succ_eq_append_getElem hi]
  rw [List.getElem?_eq_getElem hi] at h
  rw [Option.some.inj h]

theorem R2.nf {w w0 : World} {v : Value} {l : List (Nat × List Nat)} {cs : List Value} {n₀ : Nat} (h : R2 w 122 v (nf2 l cs)) (hc : cs.length = l.length) (hO : ∀ (i : Nat) (c : Value) (x : Nat × List Nat), cs[i]? = some c → l[i]? = some x → Own n₀ w0 c x.2) (hb : Below w0.heap.size w0 w) : Nf w v l := by
  letI := keepAll
  obtain ⟨ao, cap, e, -⟩ := h.shape
  refine ⟨ao, cap, by rw [e, nf2_length hc], fun i x hx => ?_⟩
  have hi := (List.getElem?_eq_some_iff.1 hx).1
  have hci := List.getElem?_eq_getElem (show i < cs.length by omega)
  have hx' := nf2_get hx hci
  obtain ⟨g, cp, e2, -, -, -, hcell, -⟩ := h.cells (by intro h0; rw [h0] at hx'; simp at hx')
  rw [e] at e2
  simp only [Value.slice.injEq] at e2
  have hOi := hO i _ x hci hx
  refine ⟨g, 0, cs[i], e2.1, by rw [Nat.zero_add]; exact (hcell i _ hx').1, by rw [Nat.zero_add]; exact (hcell i _ hx').2, ((hOi.bs (Nat.zero_le _)).below hb).mono hb.size, ?_⟩
  obtain ⟨_, ⟨h1, _⟩ | ⟨g, cap, cur, h1, _⟩⟩ := hOi
  · exact .inl h1
  · exact .inr ⟨g, _, cap, h1⟩

/-- A row's slice, from its beginning. -/
def Sh (v : Value) (n : Nat) : Prop := (v = .slice none 0 0 ∧ n = 0) ∨ ∃ g cap, v = .slice (some ⟨g, 0, none⟩) n cap ∧ n ≤ cap ∧ cap ≤ maxLen
theorem R2.sh {w : World} {t : TypeId} {v : Value} {xs : List (Value × Value)} (h : R2 w t v xs) : Sh v xs.length := by
  obtain ⟨-, ⟨r1, r2⟩ | ⟨g, cp, cur, r1, -, -, r2, r3, -⟩⟩ := h
  · exact .inl ⟨r1, r2⟩
  · exact .inr ⟨g, cp, r1, r2, r3⟩
/-- What an append to the files leaves. -/
def FoN (w : World) (xs : List (Value × Value)) (v' : Value) (w' : World) : Prop := R2 w' 122 v' xs ∧ (∀ k, v'.ownBlock = some k → w.heap.size ≤ k) ∧ Below w.heap.size w w'

set_option maxHeartbeats 4000000 in
theorem filesOf_of (n₀ : Nat) (fs : Files) (l : List (Nat × List Nat)) (ov : Value) (w : World) (hF : Fw n₀ w ov fs) (hs : SegFs fs l) (hn : ∀ x ∈ l, 0 < x.1 ∧ x.1 < 100000000) (hr : Rising l) (hl : l.length < 20) :
    Calls Tryz.prog 69 #[ov] w fun e w' => ∃ v, e = .returned v ∧ Nf w' v l ∧ Sh v l.length ∧ Below w.heap.size w w' := by
  obtain ⟨ao, cap, rfl⟩ := hF.shape
  obtain ⟨cs, hrow, hcl, hn0, hel⟩ := hF
  have hcl' : cs.length = l.length := by rw [hcl]; exact hs.1
  have hO : ∀ (i : Nat) (c : Value) (x : Nat × List Nat), cs[i]? = some c → l[i]? = some x → Own n₀ w c x.2 := fun i c x h1 h2 => by
    have hi := (List.getElem?_eq_some_iff.1 h2).1
    have hf := List.getElem?_eq_getElem (show i < fs.length by rw [hs.1]; exact hi)
    have := (hel i c _ h1 hf).1
    rw [(hs.2 i _ x hf h2).2] at this
    exact this
  have hlen : Hid (fs.length = l.length) := hs.1
  go_enter Tryz.func69, Tryz.ntmps69
  go_wp2
  go_loopg [3, 10] fs.length (fun g s3 s10 wr => ∃ i : Nat, i + g = fs.length ∧ s10 = .int .i64 (i : Int) ∧ R2 wr 122 s3 ((nf2 l cs).take i) ∧ (∀ k, s3.ownBlock = some k → w.heap.size ≤ k) ∧ Below w.heap.size w wr)
  case atStart => exact ⟨0, by simp, rfl, R2.nil _ _, (fun k hk => by cases hk), Below.refl _ _⟩
  case round =>
    obtain ⟨i, hi, rfl, hR, hk3, hbr⟩ := hrel
    by_cases hlt : i < fs.length
    · have hlti : (i : Int) < (fs.length : Int) := by omega
      have hf := List.getElem?_eq_getElem hlt
      have hil : i < l.length := by have := hlen.out; omega
      have hx := List.getElem?_eq_getElem hil
      have hc := List.getElem?_eq_getElem (show i < cs.length by omega)
      have hnm := (hs.2 i _ _ hf hx).1
      have hxn := hn l[i] (List.getElem_mem _)
      have htk : Hid ((nf2 l cs).take (i + 1) = _) := nf2_snoc hx hc
      obtain ⟨g, cp, e, _, hcell⟩ := row_cell hrow (by omega)
      cases e
      obtain ⟨c0, c1, c2⟩ := fcells_get fs cs i _ _ hf hc
      have d0 := hcell _ _ c0
      have d1 := hcell _ _ c1
      have d2 := hcell _ _ c2
      have hOi := hO i _ _ hc hx
      rw [hnm] at d0
      generalize fs[i] = f at *
      generalize l[i] = x at *
      generalize cs[i] = sv at *
      have hgl := World.block_lt_of_cell? w _ d0
      rw [Nat.zero_add, Nat.mul_comm] at d0 d1 d2
      have d0' := (hbr.cell (p := ⟨g, i * 3, none⟩) hgl).trans d0
      have d1' := (hbr.cell (p := ⟨g, i * 3 + 1, none⟩) hgl).trans d1
      have d2' := (hbr.cell (p := ⟨g, i * 3 + 2, none⟩) hgl).trans d2
      have kn := fun W => numberOf_of x.1 W hxn.2 hxn.1
      have hs1 : sv.oneCell' = true := by
        obtain ⟨ao, cap, rfl⟩ := hOi.shape
        rfl
      obtain ⟨sa, sc, rfl⟩ := hOi.shape
      have hb5 : Below wr.heap.size wr (wr.alloc (.cells #[.string (segName x.1), .slice sa x.2.length sc, .int .i64 (f.safe : Int)] 54)) := (Below.refl _ _).alloc (Nat.le_refl _) _
      have hbx := heap_alloc_new wr (.cells #[.string (segName x.1), .slice sa x.2.length sc, .int .i64 (f.safe : Int)] 54)
      obtain ⟨a3, c3, e3, -⟩ := hR.shape
      have hkp : ∀ W, Below wr.heap.size wr W → ∀ ty, ∃ v' w', (Builtin.append_ #[112, 112] ty #[u3, .slice (some ⟨W.heap.size, 0, none⟩) 1 1]).run Tryz.prog (W.alloc (.cells #[.int .i64 (x.1 : Int), .slice sa x.2.length sc] 122)) = .ok v' w' ∧ FoN w ((nf2 l cs).take (i + 1)) v' w' := fun W hb ty => by
        obtain ⟨v', w', r1, r2, r3, r4⟩ := push_file W ty u3 _ (.int .i64 (x.1 : Int), .slice sa x.2.length sc) (hR.same fun k hk => hb.block k (hR.lt hk)) (by rw [List.length_take]; omega) rfl rfl
        refine ⟨v', w', r1, by rw [htk.out]; exact r2, fun k hk => ?_, ?_⟩
        · rcases r4 k hk with h | h
          · exact hk3 k h
          · exact Nat.le_trans hbr.size (Nat.le_trans hb.size h)
        · exact (hbr.trans (hb.mono hbr.size)).grown r3 (Nat.le_trans hbr.size hb.size) hk3
      have hlb : wr.heap.size < (wr.alloc (.cells #[.string (segName x.1), .slice sa x.2.length sc, .int .i64 (f.safe : Int)] 54)).heap.size := by simp
      have hkey : ∀ w2, Below (wr.alloc (.cells #[.string (segName x.1), .slice sa x.2.length sc, .int .i64 (f.safe : Int)] 54)).heap.size (wr.alloc (.cells #[.string (segName x.1), .slice sa x.2.length sc, .int .i64 (f.safe : Int)] 54)) w2 → Hid ((∀ ty, ∃ v' w', (Builtin.append_ #[112, 112] ty #[u3, .slice (some ⟨w2.heap.size, 0, none⟩) 1 1]).run Tryz.prog (w2.alloc (.cells #[.int .i64 (x.1 : Int), .slice sa x.2.length sc] 122)) = .ok v' w' ∧ FoN w ((nf2 l cs).take (i + 1)) v' w') ∧ w2.cell? ⟨wr.heap.size, 1, none⟩ = some (.slice sa x.2.length sc)) := fun w2 hb2 => ⟨hkp w2 (hb5.trans (hb2.mono hb5.size)), by rw [cells_of_block ((hb2.block wr.heap.size hlb).trans hbx)]; rfl⟩
      have hRH : Hid (R2 wr 122 u3 ((nf2 l cs).take i)) := hR
      obtain ⟨n3, hn3⟩ : ∃ n, Hid (n = ((nf2 l cs).take i).length) := ⟨_, rfl⟩
      rw [← hn3.out] at e3
      subst e3
      clear hkp hb5 hbx hR hrow hcell hel hO hs hn hr hf hx hc c0 c1 c2 d0 d1 d2 hOi hlb hs1
      go_wp2_with fail
      refine (kn _).mono ?_
      rintro e w2 ⟨rfl, hb2⟩
      obtain ⟨kp, e1⟩ := (hkey w2 hb2).out
      clear hkey hb2 kn
      go_wp2_with (at_builtin; refine wp_by rfl _ _ _ rfl _ _ rfl rfl kp ?_)
      intro v6 w6 hN6
      obtain ⟨hR6, hk6, hb6⟩ := id hN6
      clear hN6 kp
      go_wp2
      go_roundg (gk - 1)
      case measure => omega
      case rel => exact ⟨i + 1, by omega, by go_num, hR6, hk6, hb6⟩
    · have hlti : ¬ (i : Int) < (fs.length : Int) := by omega
      rw [List.take_of_length_le (by rw [nf2_length hcl']; have := hlen.out; omega)] at hR
      have hN : Nf wr u3 l := R2.nf hR hcl' hO hbr
      have hSh : Hid (Sh u3 l.length) := by
        have := R2.sh hR
        rw [nf2_length hcl'] at this
        exact this
      have ks := sortStable_of l u3 wr hN hr hl
      clear hR
      go_wp2_with fail
      refine ks.mono ?_
      rintro e w2 ⟨rfl, hb2⟩
      have hN2 := hN.below hb2
      have kc := compact_of l u3 w2 hN2 hr (by omega)
      obtain ⟨a3, c3, rfl, -⟩ := id hN2
      clear ks hN
      go_wp2_with fail
      refine kc.mono ?_
      rintro e w3 ⟨rfl, hb3⟩
      have hN3 := hN2.below hb3
      have hb13 := hbr.trans ((hb2.trans (hb3.mono hb2.size)).mono hbr.size)
      clear hN2 kc
      go_wp2
      go_ret
      exact ⟨_, rfl, hN3, hSh.out, hb13⟩
end Go.Proofs.YtljfhafmedngnaaGreatDoor


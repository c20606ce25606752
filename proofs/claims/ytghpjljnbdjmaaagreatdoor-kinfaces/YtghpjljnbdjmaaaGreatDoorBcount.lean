/- sphere.Count and Flat: the map gone over. What Count and Flat tell, of a list of vertices that Check accepts. sphere.Count and Flat, as they are called. New turns lie flat; what Count and Flat tell of all vertices. -/
import Derived.Test.YtghpjljnbdjmaaaGreatDoorBcomp
import Derived.Test.YtghpjljnbdjmaaaGreatDoorBlink
import Derived.Test.YtghpjljnbdjmaaaGreatDoorLift10
namespace Go.Proofs.YtghpjljnbdjmaaaGreatDoor
open Go.RowKit
set_option linter.unusedVariables false

/-- What was gone over, summed. -/
def sm4 (p : Nat → Bool) (g : Nat → Qd) : Nat → Qd
  | 0 => (0, 0, 0, 0)
  | n + 1 => if p n then addQ (sm4 p g n) (g n) else sm4 p g n

theorem sm4_congr {p q : Nat → Bool} {g : Nat → Qd} : ∀ {n : Nat}, (∀ c, c < n → p c = q c) → sm4 p g n = sm4 q g n
  | 0, _ => rfl
  | n + 1, h => by
    unfold sm4
    rw [h n (by omega), sm4_congr (fun c hc => h c (by omega))]

theorem addQ_comm (a b : Qd) : addQ a b = addQ b a := by unfold addQ; simp [Int.add_comm]
theorem addQ_assoc (a b c : Qd) : addQ (addQ a b) c = addQ a (addQ b c) := by unfold addQ; simp [Int.add_assoc]

theorem sm4_on {p : Nat → Bool} {g : Nat → Qd} {v : Nat} (hp : p v = false) : ∀ {n : Nat}, v < n → sm4 (fun x => p x || x == v) g n = addQ (sm4 p g n) (g v)
  | 0, h => by omega
  | n + 1, h => by
    unfold sm4
    by_cases e : v = n
    · subst e
      have : sm4 (fun x => p x || x == v) g v = sm4 p g v := sm4_congr (fun c hc => by
        have : (c == v) = false := by simp; omega
        simp [this])
      rw [this]
      simp [hp]
    · have hn : (n == v) = false := by simp; omega
      rw [sm4_on hp (show v < n by omega)]
      simp only [hn, Bool.or_false]
      by_cases q : p n = true
      · rw [if_pos q, if_pos q, addQ_assoc, addQ_comm (g v), ← addQ_assoc]
      · rw [if_neg q, if_neg q]

/-- Bounds of the sums. -/
def Sb (B : Int) (q : Qd) : Prop := (0 ≤ q.1 ∧ q.1 ≤ B) ∧ (0 ≤ q.2.1 ∧ q.2.1 ≤ B) ∧ (0 ≤ q.2.2.1 ∧ q.2.2.1 ≤ B) ∧ 0 ≤ q.2.2.2 ∧ q.2.2.2 ≤ B

theorem sm4_bd {p : Nat → Bool} {g : Nat → Qd} {B : Int} (hB : 0 ≤ B) (hg : ∀ c, Sb B (g c)) : ∀ n : Nat, Sb (B * n) (sm4 p g n)
  | 0 => by unfold sm4 Sb; simp
  | n + 1 => by
    have ih := sm4_bd (p := p) hB hg n
    have h := hg n
    have e : B * ((n + 1 : Nat) : Int) = B * n + B := by rw [Int.natCast_succ, Int.mul_add, Int.mul_one]
    unfold sm4
    rw [e]
    unfold Sb addQ at *
    split
    · obtain ⟨⟨a1, a2⟩, ⟨a3, a4⟩, ⟨a5, a6⟩, a7, a8⟩ := ih
      obtain ⟨⟨b1, b2⟩, ⟨b3, b4⟩, ⟨b5, b6⟩, b7, b8⟩ := h
      dsimp only
      exact ⟨⟨by omega, by omega⟩, ⟨by omega, by omega⟩, ⟨by omega, by omega⟩, by omega, by omega⟩
    · obtain ⟨⟨a1, a2⟩, ⟨a3, a4⟩, ⟨a5, a6⟩, a7, a8⟩ := ih
      exact ⟨⟨by omega, by omega⟩, ⟨by omega, by omega⟩, ⟨by omega, by omega⟩, by omega, by omega⟩

theorem grown4 (w : World) (C : Nat) (a b c d : Value) : w.grownBy ((((w.setCell ⟨C, 0, none⟩ a).setCell ⟨C, 1, none⟩ b).setCell ⟨C, 2, none⟩ c).setCell ⟨C, 3, none⟩ d) (some C) :=
  (((grown_set1 w C 0 a).andThen (grown_set1 _ C 1 b) (fun j hj => .inr hj)).andThen (grown_set1 _ C 2 c) (fun j hj => .inr hj)).andThen (grown_set1 _ C 3 d) (fun j hj => .inr hj)

section
variable {w : World} {V : Nat} {dom : Nat → Bool} {g : Nat → Qd}

/-- What Count tells of a map. -/
def tot (V : Nat) (dom : Nat → Bool) (g : Nat → Qd) : Qd := addQ (0, 0, 0, ((List.range V).countP dom : Int)) (sm4 dom g V)

set_option maxRecDepth 100000 in
set_option maxHeartbeats 8000000 in
/-- Count, where components answers a map. -/
theorem count_map {tb : Nat} (vv : Value) (hV : V ≤ 1048576) (hg : ∀ c, Sb 100000 (g c)) (hc : ∀ y, Below w.heap.size w y → Calls Tryz.prog 53 #[.pointer (some ⟨tb, 0, none⟩), vv] y fun e w' => ∃ mb, e = .returned (.tuple #[.map (some mb), .nilIface]) ∧ y.heap.size ≤ mb ∧ PM w' mb V dom g ∧ Below y.heap.size y w') :
    Calls Tryz.prog 22 #[.pointer (some ⟨tb, 0, none⟩), vv] w fun e w' => e = .returned (.tuple #[mkC (tot V dom g), .nilIface]) ∧ Below w.heap.size w w' := by
  have hb0 := hid ((Below.refl w.heap.size w).alloc (Nat.le_refl _) (.cells #[.int .i64 0, .int .i64 0, .int .i64 0, .int .i64 0] 51))
  obtain ⟨w0, hw0⟩ : ∃ w0, w.alloc (.cells #[.int .i64 0, .int .i64 0, .int .i64 0, .int .i64 0] 51) = w0 := ⟨_, rfl⟩
  have hblk : w0.heap[w.heap.size]? = some (.cells #[.int .i64 0, .int .i64 0, .int .i64 0, .int .i64 0] 51 (0, 0)) := by rw [← hw0]; exact (MapKept.heap_alloc w _).1
  have hlt : w.heap.size < w0.heap.size := (Array.getElem?_eq_some_iff.1 hblk).1
  rw [hw0] at hb0
  replace hw0 := hid hw0
  replace hc := hid (hc _ hb0.out)
  replace hg := hid hg
  replace hblk := hid hblk
  go_enter Tryz.func22, Tryz.ntmps22
  go_upto_region 1 with fail
  rw [hw0.out]
  clear hw0
  go_wp2_with fail
  refine hc.out.mono ?_
  rintro e w1 ⟨mb, rfl, hmb, hpm, b1⟩
  have hb1 := hid (hb0.out.trans (b1.mono hb0.out.size))
  have hblk1 : Hid (w1.heap[w.heap.size]? = some (.cells #[.int .i64 0, .int .i64 0, .int .i64 0, .int .i64 0] 51 (0, 0))) := hid ((b1.block _ hlt).trans hblk.out)
  have hlen := hpm.len
  have hpmh := hid hpm
  obtain ⟨C, hC⟩ : ∃ C, (List.range V).countP dom = C := ⟨_, rfl⟩
  have hCV : C ≤ V := by rw [← hC]; exact Nat.le_trans List.countP_le_length (by simp)
  rw [hC] at hlen
  replace hC := hid hC
  clear b1 hblk hpm
  go_upto_region 5 with fail
  obtain ⟨w2, hw2⟩ : ∃ w2, w1.alloc (.cells #[.int .i64 0, .int .i64 0, .int .i64 0, .int .i64 (C : Int)] 51) = w2 := ⟨_, rfl⟩
  have hA2 : Hid (w2.heap[w1.heap.size]? = some (.cells #[.int .i64 0, .int .i64 0, .int .i64 0, .int .i64 (C : Int)] 51 (0, 0))) := by rw [← hw2]; exact hid (MapKept.heap_alloc w1 _).1
  have b2 : Below w1.heap.size w1 w2 := by rw [← hw2]; exact (Below.refl _ _).alloc (Nat.le_refl _) _
  have hpm2 := hid (hpmh.out.more b2)
  have hblk2 := hid ((b2.block _ (Array.getElem?_eq_some_iff.1 hblk1.out).1).trans hblk1.out)
  have hb2 := hid (hb1.out.trans (b2.mono hb1.out.size))
  have hAw : w.heap.size < w1.heap.size := (Array.getElem?_eq_some_iff.1 hblk1.out).1
  rw [hw2]
  clear hw2 b2 hpmh hblk1 hlen hb1
  obtain ⟨A, hAe⟩ : ∃ A, w1.heap.size = A := ⟨_, rfl⟩
  rw [hAe] at hA2 hAw ⊢
  clear hAe
  go_wp2_with (at_range; refine at_rng _ rfl _ rfl mb V dom g rfl hpm2.out ?_; intro w3 hr3 hg3 hs3)
  go_frame
  obtain ⟨r, hr⟩ : ∃ r, w2.heap.size = r := ⟨_, rfl⟩
  have hwr : w.heap.size ≤ r := by rw [← hr]; exact hb2.out.size
  rw [hr] at hr3 ⊢
  clear hr
  have hst0 : Hid (PR w3 mb r V dom g dom ∧ w3.heap[A]? = some (.cells #[.int .i64 0, .int .i64 0, .int .i64 0, .int .i64 (C : Int)] 51 (0, 0)) ∧ w3.heap[w.heap.size]? = some (.cells #[.int .i64 0, .int .i64 0, .int .i64 0, .int .i64 0] 51 (0, 0)) ∧ Below w.heap.size w w3) :=
    hid ⟨hr3, (hg3.block _ (Array.getElem?_eq_some_iff.1 hA2.out).1 (by simp)).trans hA2.out, (hg3.block _ (Array.getElem?_eq_some_iff.1 hblk2.out).1 (by simp)).trans hblk2.out, hb2.out.grown hg3 hb2.out.size (fun k hk => by cases hk)⟩
  clear hr3 hg3 hs3 hA2 hblk2 hb2 hpm2
  have hsb : Hid (∀ p : Nat → Bool, smQ (addQ (0, 0, 0, (C : Int)) (sm4 p g V))) := hid (fun p => by
    have h := sm4_bd (p := p) (by omega) hg.out V
    obtain ⟨⟨a1, a2⟩, ⟨a3, a4⟩, ⟨a5, a6⟩, a7, a8⟩ := h
    unfold smQ addQ
    dsimp only
    exact ⟨⟨by omega, by omega⟩, ⟨by omega, by omega⟩, ⟨by omega, by omega⟩, by omega, by omega⟩)
  have hsg : Hid (∀ c, smQ (g c)) := hid (fun c => by
    obtain ⟨⟨a1, a2⟩, ⟨a3, a4⟩, ⟨a5, a6⟩, a7, a8⟩ := hg.out c
    exact ⟨⟨by omega, by omega⟩, ⟨by omega, by omega⟩, ⟨by omega, by omega⟩, by omega, by omega⟩)
  go_loopw [10] (fun _ wr => ∃ (left : Nat → Bool) (a0 a1 a2 a3 : Int), Hid ((a0, a1, a2, a3) = addQ (0, 0, 0, (C : Int)) (sm4 (fun x => dom x && !left x) g V)) ∧ Hid (PR wr mb r V dom g left ∧ wr.heap[A]? = some (.cells #[.int .i64 a0, .int .i64 a1, .int .i64 a2, .int .i64 a3] 51 (0, 0)) ∧ wr.heap[w.heap.size]? = some (.cells #[.int .i64 0, .int .i64 0, .int .i64 0, .int .i64 0] 51 (0, 0)) ∧ Below w.heap.size w wr)) (fun _ wr => wr.rangeLeft mb r)
  case atStart =>
    refine ⟨dom, 0, 0, 0, (C : Int), hid ?_, hst0⟩
    have : sm4 (fun x => dom x && !dom x) g V = (0, 0, 0, 0) := by
      have h : ∀ n, sm4 (fun _ => false) g n = (0, 0, 0, 0) := fun n => by induction n with
        | zero => rfl
        | succ n ih => unfold sm4; simpa using ih
      rw [← h V]
      exact sm4_congr (fun c _ => by simp)
    rw [this]
    simp [addQ]
  case round =>
    obtain ⟨left, a0, a1, a2, a3, hacc, hst⟩ := hrel
    clear hst0
    go_wp2_with (at_next; refine at_nxt _ rfl _ rfl mb r V dom left g rfl hst.out.1 ?_ ?_)
    · intro hdone
      have hfin : Hid ((a0, a1, a2, a3) = tot V dom g) := hid (by
        rw [hacc.out]
        unfold tot
        rw [hC.out, sm4_congr (q := dom) (fun c hc => by rw [hdone c hc]; simp)])
      obtain ⟨⟨c0, c1, c2, c3⟩, _⟩ := blk4 hst.out.2.1
      obtain ⟨⟨d0, d1, d2, d3⟩, f0, f1, f2, f3⟩ := blk4 hst.out.2.2.1
      have hrow := hid (fun x y z u => set4_block hst.out.2.2.1 x y z u)
      have hbl := hid (fun x y z u => below4 (g := w.heap.size) hst.out.2.2.2 (Nat.le_refl _) x y z u)
      clear hdone hst hacc
      go_wp2_with fail
      refine bodyPost_ret (results_cell2 rfl _ _ w.heap.size 51 _ (0, 0) _ rfl (hrow.out _ _ _ _) Tryz.underlying51 rfl (by kernel_rfl)) rfl ?_
      refine ⟨?_, hbl.out _ _ _ _⟩
      rw [← hfin.out]
      rfl
    · intro v q0 q1 q2 q3 w4 hv hgv hlv hdv hpr4 hlt4 hg4 hs4 hen
      have hnA := hst.out.1.ne hst.out.2.1
      have hnW := hst.out.1.ne hst.out.2.2.1
      have kA := (hg4.block A (Array.getElem?_eq_some_iff.1 hst.out.2.1).1 (fun e => hnA.2 e.symm)).trans hst.out.2.1
      have kW := (hg4.block _ (Array.getElem?_eq_some_iff.1 hst.out.2.2.1).1 (fun e => hnW.2 e.symm)).trans hst.out.2.2.1
      have b4 := hst.out.2.2.2.grown hg4 hst.out.2.2.2.size (fun k hk => by cases hk; exact hwr)
      have hacc2 : Hid ((a0 + q0, a1 + q1, a2 + q2, a3 + q3) = addQ (0, 0, 0, (C : Int)) (sm4 (fun x => dom x && !(left x && !(x == v))) g V)) := hid (by
        have e1 : sm4 (fun x => dom x && !(left x && !(x == v))) g V = sm4 (fun x => (dom x && !left x) || x == v) g V := sm4_congr (fun c hc => by
          by_cases e : c = v
          · subst e; simp [hdv]
          · have e' : (c == v) = false := beq_eq_false_iff_ne.2 e
            show (dom c && !(left c && !(c == v))) = (dom c && !left c || c == v)
            rw [e']
            cases dom c <;> cases left c <;> rfl)
        rw [e1, sm4_on (by simp [hlv]) hv, ← addQ_assoc, ← hacc.out, hgv]
        rfl)
      have hs1 : Hid (smQ (a0, a1, a2, a3)) := hid (by rw [hacc.out]; exact hsb.out _)
      have hs2 : Hid (smQ (q0, q1, q2, q3)) := hid (by rw [← hgv]; exact hsg.out v)
      have hsum : Hid (∀ y, Calls Tryz.prog 54 #[.agg #[.int .i64 a0, .int .i64 a1, .int .i64 a2, .int .i64 a3], .agg #[.int .i64 q0, .int .i64 q1, .int .i64 q2, .int .i64 q3]] y fun x w' => x = .returned (.agg #[.int .i64 (a0 + q0), .int .i64 (a1 + q1), .int .i64 (a2 + q2), .int .i64 (a3 + q3)]) ∧ Below y.heap.size y w') := hid (fun y => sum_ok (a0, a1, a2, a3) (q0, q1, q2, q3) y hs1.out hs2.out)
      obtain ⟨wm, hwm⟩ : ∃ wm, wr.rangeLeft mb r = wm := ⟨_, rfl⟩
      have hmeas := hid hwm
      rw [hwm] at hlt4
      have hst4 : Hid (PR w4 mb r V dom g (fun x => left x && !(x == v)) ∧ w4.heap[A]? = some (.cells #[.int .i64 a0, .int .i64 a1, .int .i64 a2, .int .i64 a3] 51 (0, 0)) ∧ w4.heap[w.heap.size]? = some (.cells #[.int .i64 0, .int .i64 0, .int .i64 0, .int .i64 0] 51 (0, 0)) ∧ Below w.heap.size w w4 ∧ w4.rangeLeft mb r < wm) := hid ⟨hpr4, kA, kW, b4, hlt4⟩
      clear hwm hst hacc hgv hlv hdv hpr4 hlt4 hg4 hs4 kA kW b4 hnA hnW hs1 hs2
      go_upto_region 8 with fail
      obtain ⟨w5, hw5⟩ : ∃ w5, w4.alloc (.cells #[.int .i64 q0, .int .i64 q1, .int .i64 q2, .int .i64 q3] 51) = w5 := ⟨_, rfl⟩
      have kq : w5.heap[w4.heap.size]? = some (.cells #[.int .i64 q0, .int .i64 q1, .int .i64 q2, .int .i64 q3] 51 (0, 0)) := by rw [← hw5]; exact (MapKept.heap_alloc w4 _).1
      have b5 : Below w4.heap.size w4 w5 := by rw [← hw5]; exact (Below.refl _ _).alloc (Nat.le_refl _) _
      have hst5 : Hid (PR w5 mb r V dom g (fun x => left x && !(x == v)) ∧ w5.heap[A]? = some (.cells #[.int .i64 a0, .int .i64 a1, .int .i64 a2, .int .i64 a3] 51 (0, 0)) ∧ w5.heap[w.heap.size]? = some (.cells #[.int .i64 0, .int .i64 0, .int .i64 0, .int .i64 0] 51 (0, 0)) ∧ Below w.heap.size w w5 ∧ w5.rangeLeft mb r < wm) := hid (by
        obtain ⟨h1, h2, h3, h4, h5⟩ := hst4.out
        exact ⟨(h1.more b5).1, (b5.block _ (Array.getElem?_eq_some_iff.1 h2).1).trans h2, (b5.block _ (Array.getElem?_eq_some_iff.1 h3).1).trans h3, h4.trans (b5.mono h4.size), by rw [(h1.more b5).2]; exact h5⟩)
      rw [hw5]
      obtain ⟨⟨z0, z1, z2, z3⟩, _⟩ := blk4 kq
      obtain ⟨⟨c0, c1, c2, c3⟩, _⟩ := blk4 hst5.out.2.1
      clear hw5 kq b5 hst4 hen
      go_wp2_with fail
      refine (hsum.out w5).mono ?_
      rintro e w6 ⟨rfl, b6⟩
      have hst6 : Hid (PR w6 mb r V dom g (fun x => left x && !(x == v)) ∧ w6.heap[A]? = some (.cells #[.int .i64 a0, .int .i64 a1, .int .i64 a2, .int .i64 a3] 51 (0, 0)) ∧ w6.heap[w.heap.size]? = some (.cells #[.int .i64 0, .int .i64 0, .int .i64 0, .int .i64 0] 51 (0, 0)) ∧ Below w.heap.size w w6 ∧ w6.rangeLeft mb r < wm) := hid (by
        obtain ⟨h1, h2, h3, h4, h5⟩ := hst5.out
        exact ⟨(h1.more b6).1, (b6.block _ (Array.getElem?_eq_some_iff.1 h2).1).trans h2, (b6.block _ (Array.getElem?_eq_some_iff.1 h3).1).trans h3, h4.trans (b6.mono h4.size), by rw [(h1.more b6).2]; exact h5⟩)
      have hst7 : Hid (∀ x y z u, PR ((((w6.setCell ⟨A, 0, none⟩ x).setCell ⟨A, 1, none⟩ y).setCell ⟨A, 2, none⟩ z).setCell ⟨A, 3, none⟩ u) mb r V dom g (fun x => left x && !(x == v)) ∧ ((((w6.setCell ⟨A, 0, none⟩ x).setCell ⟨A, 1, none⟩ y).setCell ⟨A, 2, none⟩ z).setCell ⟨A, 3, none⟩ u).heap[A]? = some (.cells #[x, y, z, u] 51 (0, 0)) ∧ ((((w6.setCell ⟨A, 0, none⟩ x).setCell ⟨A, 1, none⟩ y).setCell ⟨A, 2, none⟩ z).setCell ⟨A, 3, none⟩ u).heap[w.heap.size]? = some (.cells #[.int .i64 0, .int .i64 0, .int .i64 0, .int .i64 0] 51 (0, 0)) ∧ Below w.heap.size w ((((w6.setCell ⟨A, 0, none⟩ x).setCell ⟨A, 1, none⟩ y).setCell ⟨A, 2, none⟩ z).setCell ⟨A, 3, none⟩ u) ∧ ((((w6.setCell ⟨A, 0, none⟩ x).setCell ⟨A, 1, none⟩ y).setCell ⟨A, 2, none⟩ z).setCell ⟨A, 3, none⟩ u).rangeLeft mb r < wm) := hid (fun x y z u => by
        obtain ⟨h1, h2, h3, h4, h5⟩ := hst6.out
        have hn := h1.ne h2
        have hg := grown4 w6 A x y z u
        refine ⟨h1.kept hg hn.1 hn.2, set4_block h2 x y z u, (hg.block _ (Array.getElem?_eq_some_iff.1 h3).1 (fun e => by simp at e; omega)).trans h3, below4 h4 (by omega) x y z u, by rw [h1.left hg hn.1 hn.2]; exact h5⟩)
      obtain ⟨⟨d0, d1, d2, d3⟩, f0, f1, f2, f3⟩ := blk4 hst6.out.2.1
      clear hst5 b6 hst6 hsum z0 z1 z2 z3 c0 c1 c2 c3
      go_wp2_with fail
      go_roundw
      case rel =>
        obtain ⟨h1, h2, h3, h4, h5⟩ := hst7.out (.int .i64 (a0 + q0)) (.int .i64 (a1 + q1)) (.int .i64 (a2 + q2)) (.int .i64 (a3 + q3))
        exact ⟨_, _, _, _, _, hacc2, hid ⟨h1, h2, h3, h4⟩⟩
      case measure =>
        rw [hmeas.out]
        exact (hst7.out _ _ _ _).2.2.2.2

set_option maxRecDepth 100000 in
set_option maxHeartbeats 2000000 in
/-- Count, where components answers an error. -/
theorem count_err (pv vv : Value) (c : Int) (hc : ∀ y, Below w.heap.size w y → Calls Tryz.prog 53 #[pv, vv] y fun e w' => e = .returned (.tuple #[.map none, .iface 88 (.int .i64 c)]) ∧ Below y.heap.size y w') :
    Calls Tryz.prog 22 #[pv, vv] w fun e w' => e = .returned (.tuple #[mkC (0, 0, 0, 0), .iface 88 (.int .i64 c)]) ∧ Below w.heap.size w w' := by
  have hb0 := hid ((Below.refl w.heap.size w).alloc (Nat.le_refl _) (.cells #[.int .i64 0, .int .i64 0, .int .i64 0, .int .i64 0] 51))
  obtain ⟨w0, hw0⟩ : ∃ w0, w.alloc (.cells #[.int .i64 0, .int .i64 0, .int .i64 0, .int .i64 0] 51) = w0 := ⟨_, rfl⟩
  have hblk : w0.heap[w.heap.size]? = some (.cells #[.int .i64 0, .int .i64 0, .int .i64 0, .int .i64 0] 51 (0, 0)) := by rw [← hw0]; exact (MapKept.heap_alloc w _).1
  have hlt : w.heap.size < w0.heap.size := (Array.getElem?_eq_some_iff.1 hblk).1
  rw [hw0] at hb0
  replace hw0 := hid hw0
  replace hc := hid (hc _ hb0.out)
  go_enter Tryz.func22, Tryz.ntmps22
  go_upto_region 1 with fail
  rw [hw0.out]
  clear hw0
  go_wp2_with fail
  refine hc.out.mono ?_
  rintro e w1 ⟨rfl, b1⟩
  have hb1 := hid (hb0.out.trans (b1.mono hb0.out.size))
  have hblk1 := (b1.block _ hlt).trans hblk
  obtain ⟨⟨d0, d1, d2, d3⟩, f0, f1, f2, f3⟩ := blk4 hblk1
  have hrow := hid (fun x y z u => set4_block hblk1 x y z u)
  have hbl := hid (fun x y z u => below4 (g := w.heap.size) hb1.out (Nat.le_refl _) x y z u)
  clear b1 hblk hblk1
  go_wp2_with fail
  refine bodyPost_ret (results_cell2 rfl _ _ w.heap.size 51 _ (0, 0) _ rfl (hrow.out _ _ _ _) Tryz.underlying51 rfl (by kernel_rfl)) rfl ?_
  exact ⟨rfl, hbl.out _ _ _ _⟩

set_option maxRecDepth 100000 in
theorem flat_err (pv vv : Value) (c : Int) (hc : Calls Tryz.prog 53 #[pv, vv] w fun e w' => e = .returned (.tuple #[.map none, .iface 88 (.int .i64 c)]) ∧ Below w.heap.size w w') :
    Calls Tryz.prog 21 #[pv, vv] w fun e w' => e = .returned (.tuple #[.bool false, .iface 88 (.int .i64 c)]) ∧ Below w.heap.size w w' := by
  replace hc := hid hc
  go_enter Tryz.func21, Tryz.ntmps21
  go_wp2_with fail
  refine hc.out.mono ?_
  rintro e w1 ⟨rfl, b1⟩
  replace b1 := hid b1
  go_wp2_with fail
  go_ret2
  exact ⟨rfl, b1.out⟩

/-- On a sphere. -/
def two (q : Qd) : Prop := q.1 - q.2.1 + q.2.2.1 = 2

set_option maxRecDepth 100000 in
set_option maxHeartbeats 8000000 in
/-- Flat, where components answers a map. -/
theorem flat_map {tb : Nat} (vv : Value) (s : Bool) (hs : s = true ↔ ∀ c, c < V → dom c = true → two (g c)) (hg : ∀ c, Sb 100000 (g c)) (hc : Calls Tryz.prog 53 #[.pointer (some ⟨tb, 0, none⟩), vv] w fun e w' => ∃ mb, e = .returned (.tuple #[.map (some mb), .nilIface]) ∧ w.heap.size ≤ mb ∧ PM w' mb V dom g ∧ Below w.heap.size w w') :
    Calls Tryz.prog 21 #[.pointer (some ⟨tb, 0, none⟩), vv] w fun e w' => e = .returned (.tuple #[.bool s, .nilIface]) ∧ Below w.heap.size w w' := by
  replace hc := hid hc
  replace hg := hid hg
  replace hs := hid hs
  go_enter Tryz.func21, Tryz.ntmps21
  go_wp2_with fail
  refine hc.out.mono ?_
  rintro e w1 ⟨mb, rfl, hmb, hpm, b1⟩
  replace b1 := hid b1
  replace hpm := hid hpm
  clear hc
  go_wp2_with (at_range; refine at_rng _ rfl _ rfl mb V dom g rfl hpm.out ?_; intro w3 hr3 hg3 hs3)
  go_frame
  obtain ⟨r, hr⟩ : ∃ r, w1.heap.size = r := ⟨_, rfl⟩
  have hwr : w.heap.size ≤ r := by rw [← hr]; exact b1.out.size
  rw [hr] at hr3 ⊢
  clear hr
  have hst0 : Hid (PR w3 mb r V dom g dom ∧ Below w.heap.size w w3) := hid ⟨hr3, b1.out.grown hg3 b1.out.size (fun k hk => by cases hk)⟩
  clear hr3 hg3 hs3 b1 hpm
  go_loopw [9] (fun _ wr => ∃ left : Nat → Bool, Hid (∀ c, c < V → dom c = true → left c = false → two (g c)) ∧ Hid (PR wr mb r V dom g left ∧ Below w.heap.size w wr)) (fun _ wr => wr.rangeLeft mb r)
  case atStart => exact ⟨dom, hid (fun c _ h1 h2 => by rw [h1] at h2; cases h2), hst0⟩
  case round =>
    obtain ⟨left, hacc, hst⟩ := hrel
    clear hst0
    go_wp2_with (at_next; refine at_nxt _ rfl _ rfl mb r V dom left g rfl hst.out.1 ?_ ?_)
    · intro hdone
      have hfin : Hid (s = true) := hid (hs.out.2 (fun c h1 h2 => hacc.out c h1 h2 (hdone c h1)))
      have hbl := hid hst.out.2
      clear hdone hst hacc
      go_wp2_with fail
      go_ret2
      exact ⟨by rw [hfin.out]; rfl, hbl.out⟩
    · intro v q0 q1 q2 q3 w4 hv hgv hlv hdv hpr4 hlt4 hg4 hs4 hen
      have b4 := hst.out.2.grown hg4 hst.out.2.size (fun k hk => by cases hk; exact hwr)
      obtain ⟨⟨x0, x0'⟩, ⟨x1, x1'⟩, ⟨x2, x2'⟩, _⟩ := hg.out v
      rw [hgv] at x0 x0' x1 x1' x2 x2'
      simp only at x0 x0' x1 x1' x2 x2'
      obtain ⟨wm, hwm⟩ : ∃ wm, wr.rangeLeft mb r = wm := ⟨_, rfl⟩
      have hmeas := hid hwm
      rw [hwm] at hlt4
      obtain ⟨w5, hw5⟩ : ∃ w5, w4.alloc (.cells #[.int .i64 q0, .int .i64 q1, .int .i64 q2, .int .i64 q3] 51) = w5 := ⟨_, rfl⟩
      have kq : w5.heap[w4.heap.size]? = some (.cells #[.int .i64 q0, .int .i64 q1, .int .i64 q2, .int .i64 q3] 51 (0, 0)) := by rw [← hw5]; exact (MapKept.heap_alloc w4 _).1
      have b5 : Below w4.heap.size w4 w5 := by rw [← hw5]; exact (Below.refl _ _).alloc (Nat.le_refl _) _
      have hst5 : Hid (PR w5 mb r V dom g (fun x => left x && !(x == v)) ∧ Below w.heap.size w w5 ∧ w5.rangeLeft mb r < wm) := hid ⟨(hpr4.more b5).1, b4.trans (b5.mono b4.size), by rw [(hpr4.more b5).2]; exact hlt4⟩
      obtain ⟨⟨z0, z1, z2, z3⟩, _⟩ := blk4 kq
      replace hw5 := hid hw5
      have htwo : Hid (two (g v) ↔ q0 - q1 + q2 = 2) := hid (by rw [hgv]; rfl)
      clear hwm hst hgv hpr4 hlt4 hg4 hs4 b4 b5 kq
      by_cases hq : q0 - q1 + q2 = 2
      · have t1 : ((q0 - q1 + q2) != 2) = false := by simp [hq]
        have hacc2 : Hid (∀ c, c < V → dom c = true → (left c && !(c == v)) = false → two (g c)) := hid (fun c h1 h2 h3 => by
          by_cases e : c = v
          · subst e; exact htwo.out.2 hq
          · refine hacc.out c h1 h2 ?_
            have e' : (c == v) = false := beq_eq_false_iff_ne.2 e
            rw [e'] at h3
            simpa using h3)
        clear hacc htwo
        go_upto_region 7 with fail
        rw [hw5.out]
        clear hw5 hen
        go_wp2_with fail
        go_roundw
        case rel => exact ⟨_, hacc2, hid ⟨hst5.out.1, hst5.out.2.1⟩⟩
        case measure => rw [hmeas.out]; exact hst5.out.2.2
      · have t1 : ((q0 - q1 + q2) != 2) = true := by simp [hq]
        have hfin : Hid (s = false) := hid (by
          cases hss : s
          · rfl
          · exact absurd (htwo.out.1 (hs.out.1 hss v hv hdv)) hq)
        clear hacc htwo
        go_upto_region 7 with fail
        rw [hw5.out]
        clear hw5 hen
        go_wp2_with fail
        go_ret2
        exact ⟨by rw [hfin.out]; rfl, hst5.out.2.1⟩
end
end Go.Proofs.YtghpjljnbdjmaaaGreatDoor

namespace Go.Proofs.YtghpjljnbdjmaaaGreatDoor
open Go.RowKit
set_option linter.unusedVariables false

theorem ck_uniq {V : Nat} {R : Nat → List Nat} {zs : List Int} {c d : Int} (h : Ck12 V R zs c) (k : Ck12 V R zs d) : c = d := by
  rcases h with ⟨h, x, hx, hq⟩ | ⟨l, h1, h2, h3⟩ <;> rcases k with ⟨k, y, hy, hp⟩ | ⟨m, k1, k2, k3⟩
  · omega
  · rw [k1] at hx
    obtain ⟨z, hz, rfl⟩ := List.mem_map.1 hx
    have := k2 z hz
    omega
  · rw [h1] at hy
    obtain ⟨z, hz, rfl⟩ := List.mem_map.1 hy
    have := h2 z hz
    omega
  · rw [h1] at k1
    obtain rfl := map_inj k1
    rcases h3 with ⟨a, b⟩ | ⟨b, ⟨a, v, v1, v2, v3⟩ | ⟨a, v⟩⟩ <;> rcases k3 with ⟨a', b'⟩ | ⟨b', ⟨a', u, u1, u2, u3⟩ | ⟨a', u⟩⟩
    · omega
    · exact absurd b' b
    · exact absurd b' b
    · exact absurd b b'
    · omega
    · exact absurd (u v v1 v2) v3
    · exact absurd b b'
    · exact absurd (v u u1 u2) u3
    · omega

theorem ck_total (V : Nat) (R : Nat → List Nat) (zs : List Int) : ∃ c, Ck12 V R zs c := by
  classical
  by_cases h : ∃ x, x ∈ zs ∧ (x < 0 ∨ (V : Int) ≤ x)
  · exact ⟨12, .inl ⟨rfl, h⟩⟩
  · obtain ⟨l, h1, h2⟩ := int_list (V := V) (zs := zs) (fun x hx q => h ⟨x, hx, q⟩)
    by_cases hn : l.Nodup
    · by_cases hs : ∃ v, v < V ∧ R v ≠ [] ∧ v ∉ l
      · exact ⟨13, .inr ⟨l, h1, h2, .inr ⟨hn, .inl ⟨rfl, hs⟩⟩⟩⟩
      · refine ⟨0, .inr ⟨l, h1, h2, .inr ⟨hn, .inr ⟨rfl, fun v hv hne => ?_⟩⟩⟩⟩
        exact Classical.not_not.1 (fun q => hs ⟨v, hv, hne, q⟩)
    · exact ⟨20, .inr ⟨l, h1, h2, .inl ⟨rfl, hn⟩⟩⟩

theorem cnt_sum {α : Type} {V : Nat} {lab : α → Nat} : ∀ {L : List α}, (∀ x, x ∈ L → lab x < V) → sm (fun c => (L.countP (fun x => decide (lab x = c)) : Int)) V = (L.length : Int)
  | [], _ => by
    have : ∀ n, sm (fun _ => (0 : Int)) n = 0 := fun n => by induction n with
      | zero => rfl
      | succ n ih => unfold sm; rw [ih]; rfl
    simpa using this V
  | a :: L, h => by
    have ih := cnt_sum (L := L) (V := V) (lab := lab) (fun x hx => h x (by simp [hx]))
    have e : sm (fun c => (((a :: L).countP (fun x => decide (lab x = c)) : Nat) : Int)) V = sm (fun c => (L.countP (fun x => decide (lab x = c)) : Int) + (if c = lab a then 1 else 0)) V := sm_congr (fun c hc => by
      rw [List.countP_cons]
      by_cases q : lab a = c
      · subst q; simp
      · simp [q, show ¬ c = lab a from fun e => q e.symm])
    rw [e, sm_add, ih, sm_one (h a (by simp))]
    simp

theorem sm4_all {g : Nat → Qd} : ∀ n, sm4 (fun _ => true) g n = (sm (fun c => (g c).1) n, sm (fun c => (g c).2.1) n, sm (fun c => (g c).2.2.1) n, sm (fun c => (g c).2.2.2) n)
  | 0 => rfl
  | n + 1 => by
    unfold sm4 sm
    rw [if_pos rfl, sm4_all n]
    rfl

theorem sm4_dom {dom : Nat → Bool} {g : Nat → Qd} : ∀ n, (∀ c, c < n → dom c = false → g c = (0, 0, 0, 0)) → sm4 dom g n = sm4 (fun _ => true) g n
  | 0, _ => rfl
  | n + 1, h => by
    unfold sm4
    rw [sm4_dom n (fun c hc => h c (by omega))]
    cases hd : dom n
    · rw [h n (by omega) hd]
      simp [addQ]
    · rfl

section
variable {V E : Nat} {R : Nat → List Nat}

theorem lb_lb (v : Nat) : lb V E R (lb V E R v) = lb V E R v := (lb_lab V E R).ff v

theorem face_head (h : Tn V E R) (t : Tw V E R) {f : List Nat} (hf : f ∈ fcs V R (2 * E)) : ∃ z, f.headD 0 = z ∧ In V R z := by
  obtain ⟨z, _, hi, hl, rfl⟩ := mem_fcs.1 hf
  have hp := ((fx_pm h t).per_is (hi.low h)).1.pos
  have h0 : (Pq.orb (fx V R) z)[0]? = some z := by
    unfold Pq.orb
    rw [Pq.fl_get hp]
    rfl
  refine ⟨z, ?_, hi⟩
  cases hq : Pq.orb (fx V R) z with
  | nil => rw [hq] at h0; simp at h0
  | cons a b => rw [hq] at h0; simp at h0; simp [h0]

theorem d1_iff (h : Tn V E R) (t : Tw V E R) {l : List Nat} (hl : Vl V R l) {c : Nat} : D1 V E R l c = true ↔ c ∈ l ∧ lb V E R c = c := by
  unfold D1
  rw [List.any_eq_true]
  constructor
  · rintro ⟨v, hv, e⟩
    have e : lb V E R v = c := by simpa using e
    have hvV := hl.low v hv
    have hcc : lb V E R c = c := by rw [← e]; exact lb_lb v
    have hcV : c < V := by rw [← e]; exact lb_lt v hvV
    refine ⟨?_, hcc⟩
    by_cases hb : R c = []
    · rw [← bare_only h t hb (show lb V E R v = lb V E R c by rw [e, hcc])]
      exact hv
    · exact hl.all c hcV hb
  · rintro ⟨h1, h2⟩
    exact ⟨c, h1, by simp [h2]⟩

theorem g1_zero (h : Tn V E R) (t : Tw V E R) {l : List Nat} (hl : Vl V R l) {c : Nat} (hc : D1 V E R l c = false) : G1 V E R l (es V R E) (fcs V R (2 * E)) c = (0, 0, 0, 0) := by
  have hno : ∀ v, v ∈ l → lb V E R v ≠ c := fun v hv e => by
    have : D1 V E R l c = true := by rw [← e]; exact d1_of hv
    rw [hc] at this
    cases this
  have hin : ∀ k, In V R k → lb V E R (og V R k) ≠ c := fun k hk => by
    obtain ⟨h1, h2⟩ := og_is hk
    exact hno _ (hl.all _ h1 (fun q => by rw [q] at h2; simp at h2))
  unfold G1
  have e1 : l.countP (fun v => decide (lb V E R v = c)) = 0 := List.countP_eq_zero.2 (fun v hv => by simpa using hno v hv)
  have e2 : (es V R E).countP (fun e => decide (lb V E R (og V R (2 * e)) = c)) = 0 := List.countP_eq_zero.2 (fun e he => by simpa using hin _ (mem_es.1 he).2)
  have e3 : l.countP (fun v => (R v).isEmpty && decide (lb V E R v = c)) = 0 := List.countP_eq_zero.2 (fun v hv => by simp [hno v hv])
  have e4 : (fcs V R (2 * E)).countP (fun f => decide (lb V E R (og V R (f.headD 0)) = c)) = 0 := List.countP_eq_zero.2 (fun f hf => by
    obtain ⟨z, hz, hi⟩ := face_head h t hf
    rw [hz]
    simpa using hin _ hi)
  rw [e1, e2, e3, e4]
  rfl

theorem tot_is (h : Tn V E R) (t : Tw V E R) {l : List Nat} (hl : Vl V R l) : tot V (D1 V E R l) (G1 V E R l (es V R E) (fcs V R (2 * E))) = ((l.length : Int), ((es V R E).length : Int), ((k2 (fun _ => true) R l + (fcs V R (2 * E)).length : Nat) : Int), (k3 (fun _ => true) (lb V E R) l : Int)) := by
  have hlV : ∀ v, v ∈ l → lb V E R v < V := fun v hv => lb_lt v (hl.low v hv)
  unfold tot
  rw [sm4_dom V (fun c hc hd => g1_zero h t hl hd), sm4_all]
  have s1 : sm (fun c => (G1 V E R l (es V R E) (fcs V R (2 * E)) c).1) V = (l.length : Int) := cnt_sum hlV
  have s2 : sm (fun c => (G1 V E R l (es V R E) (fcs V R (2 * E)) c).2.1) V = ((es V R E).length : Int) := cnt_sum (lab := fun e => lb V E R (og V R (2 * e))) (fun e he => lb_lt _ (og_is (mem_es.1 he).2).1)
  have s3 : sm (fun c => (G1 V E R l (es V R E) (fcs V R (2 * E)) c).2.2.1) V = ((k2 (fun _ => true) R l + (fcs V R (2 * E)).length : Nat) : Int) := by
    have e : sm (fun c => (G1 V E R l (es V R E) (fcs V R (2 * E)) c).2.2.1) V = sm (fun c => ((l.filter (fun v => (R v).isEmpty)).countP (fun v => decide (lb V E R v = c)) : Int) + ((fcs V R (2 * E)).countP (fun f => decide (lb V E R (og V R (f.headD 0)) = c)) : Int)) V := sm_congr (fun c hc => by
      unfold G1
      dsimp only
      rw [List.countP_filter, Int.natCast_add]
      congr 2
      refine List.countP_congr (fun v _ => ?_)
      simp [and_comm])
    rw [e, sm_add, cnt_sum (fun v hv => hlV v (List.mem_filter.1 hv).1), cnt_sum (L := fcs V R (2 * E)) (lab := fun f => lb V E R (og V R (f.headD 0))) (fun f hf => by
      obtain ⟨z, hz, hi⟩ := face_head h t hf
      rw [hz]
      exact lb_lt _ (og_is hi).1), ← List.countP_eq_length_filter]
    unfold k2
    rw [Int.natCast_add]
    simp
  have s4 : sm (fun c => (G1 V E R l (es V R E) (fcs V R (2 * E)) c).2.2.2) V = 0 := by
    have : ∀ n, sm (fun c => (G1 V E R l (es V R E) (fcs V R (2 * E)) c).2.2.2) n = 0 := fun n => by induction n with
      | zero => rfl
      | succ n ih => unfold sm; rw [ih]; rfl
    exact this V
  rw [s1, s2, s3, s4]
  have s5 : (List.range V).countP (D1 V E R l) = k3 (fun _ => true) (lb V E R) l := by
    have e1 : (List.range V).countP (D1 V E R l) = (List.range V).countP (fun c => decide (c ∈ l) && (lb V E R c == c)) := List.countP_congr (fun c hc => by
      rw [d1_iff h t hl]
      simp)
    rw [e1, ← range_count hl.nd hl.low (fun v hv q => by simp at q; exact q.1)]
    unfold k3
    refine List.countP_congr (fun v hv => ?_)
    simp [hv]
  rw [s5]
  simp [addQ]

theorem two_is (h : Tn V E R) (t : Tw V E R) {l : List Nat} (hl : Vl V R l) : (∀ c, c < V → D1 V E R l c = true → two (G1 V E R l (es V R E) (fcs V R (2 * E)) c)) ↔ ∀ c, c ∈ l → lb V E R c = c → flA V E R l c (Pc V E R c) := by
  classical
  have key : ∀ c, c ∈ l → lb V E R c = c → (two (G1 V E R l (es V R E) (fcs V R (2 * E)) c) ↔ flA V E R l c (Pc V E R c)) := fun c h1 h2 => by
    have e1 : (es V R E).countP (fun e => decide (lb V E R (og V R (2 * e)) = c)) = evl (Pc V E R c) R l := by
      rw [hl.evl h t h1 h2]
      unfold es cE
      rw [List.countP_filter]
      refine List.countP_congr (fun e _ => ?_)
      simp [and_comm]
    have e2 : l.countP (fun v => (R v).isEmpty && decide (lb V E R v = c)) = k2 (Pc V E R c) R l := by
      unfold k2 Pc
      refine List.countP_congr (fun v _ => ?_)
      simp [and_comm]
    unfold two flA G1
    dsimp only
    rw [e1, e2]
    exact Iff.rfl
  constructor
  · intro q c h1 h2
    exact (key c h1 h2).1 (q c (hl.low c h1) ((d1_iff h t hl).2 ⟨h1, h2⟩))
  · intro q c hc hd
    obtain ⟨h1, h2⟩ := (d1_iff h t hl).1 hd
    exact (key c h1 h2).2 (q c h1 h2)
end
end Go.Proofs.YtghpjljnbdjmaaaGreatDoor

namespace Go.Proofs.YtghpjljnbdjmaaaGreatDoor
open Go.RowKit
set_option linter.unusedVariables false

/-- A slice of numbers to be read, as whole numbers. -/
theorem RN.iv {w : World} {v : Value} {l : List Nat} (h : RN w v l) : IV w v (l.map (fun x : Nat => (x : Int))) := by
  obtain ⟨ad, n, cap, h1, h2, h3, h4⟩ := h
  refine ⟨ad, n, cap, h1, ⟨by simp [h2], h3, fun j z hz => ?_⟩⟩
  rw [List.getElem?_map] at hz
  cases hq : l[j]? with
  | none => rw [hq] at hz; simp at hz
  | some x =>
    rw [hq] at hz
    simp at hz
    subst hz
    exact h4 j x hq

set_option maxRecDepth 100000 in
theorem comp_nil (vv : Value) (w : World) : Calls Tryz.prog 53 #[.pointer none, vv] w fun e w' => e = .returned (.tuple #[.map none, .iface 88 (.int .i64 1)]) ∧ Below w.heap.size w w' := by
  have hc := hid (scheck_nil vv w)
  go_enter Tryz.func53, Tryz.ntmps53
  go_wp2_with fail
  refine hc.out.mono ?_
  rintro e w1 ⟨rfl, b1⟩
  replace b1 := hid b1
  go_wp2_with fail
  go_ret2
  exact ⟨rfl, b1.out⟩

theorem scount_nil (vv : Value) (w : World) : Calls Tryz.prog 22 #[.pointer none, vv] w fun e w' => e = .returned (.tuple #[mkC (0, 0, 0, 0), .iface 88 (.int .i64 1)]) ∧ Below w.heap.size w w' :=
  count_err (.pointer none) vv 1 (fun y _ => comp_nil vv y)

section
variable {w : World} {lo tb V E : Nat} {R : Nat → List Nat}

theorem comp_bad (h : TA w lo tb V E R) (hw : Tw V E R) (hE8 : E ≤ 1000) (hV1 : 1 ≤ V) (vv : Value) (zs : List Int) (hL : IV w vv zs) (hln : zs.length ≤ 1000) (c : Int) (hc : c ≠ 0) (hk : Ck12 V R zs c) :
    Calls Tryz.prog 53 #[.pointer (some ⟨tb, 0, none⟩), vv] w fun e w' => e = .returned (.tuple #[.map none, .iface 88 (.int .i64 c)]) ∧ Below w.heap.size w w' := by
  refine (comp_any h hw hE8 hV1 vv zs hL hln).mono ?_
  rintro e w' ⟨d, k1, k2, k3⟩
  obtain rfl := ck_uniq hk k1
  rcases k3 with ⟨_, k3⟩ | ⟨k3, _⟩
  · exact ⟨k3, k2⟩
  · exact absurd k3 hc

theorem comp_good (h : TA w lo tb V E R) (hw : Tw V E R) (hE8 : E ≤ 1000) (hV1 : 1 ≤ V) (vv : Value) (l : List Nat) (hL : RN w vv l) (hln : l.length ≤ 1000) (hl : Vl V R l) :
    Calls Tryz.prog 53 #[.pointer (some ⟨tb, 0, none⟩), vv] w fun e w' => ∃ mb, e = .returned (.tuple #[.map (some mb), .nilIface]) ∧ w.heap.size ≤ mb ∧ PM w' mb V (D1 V E R l) (G1 V E R l (es V R E) (fcs V R (2 * E))) ∧ Below w.heap.size w w' := by
  refine (comp_any h hw hE8 hV1 vv _ hL.iv (by simpa using hln)).mono ?_
  rintro e w' ⟨d, k1, k2, k3⟩
  have := ck_zero hl k1
  subst this
  rcases k3 with ⟨k3, _⟩ | ⟨_, mb, m, k3, k4, k5, k6, k7⟩
  · exact absurd rfl k3
  · obtain rfl := map_inj k4
    exact ⟨mb, k3, k6, k7, k2⟩

theorem g1_sb (hE8 : E ≤ 1000) {l : List Nat} (hln : l.length ≤ 1000) (c : Nat) : Sb 100000 (G1 V E R l (es V R E) (fcs V R (2 * E)) c) := by
  have a1 := List.countP_le_length (p := fun v => decide (lb V E R v = c)) (l := l)
  have a2 := List.countP_le_length (p := fun e => decide (lb V E R (og V R (2 * e)) = c)) (l := es V R E)
  have a3 := List.countP_le_length (p := fun v => (R v).isEmpty && decide (lb V E R v = c)) (l := l)
  have a4 := List.countP_le_length (p := fun f => decide (lb V E R (og V R (f.headD 0)) = c)) (l := fcs V R (2 * E))
  have a5 : (es V R E).length ≤ E := by unfold es; exact Nat.le_trans (List.length_filter_le _ _) (by simp)
  have a6 := fcs_le V R (2 * E)
  unfold G1 Sb
  dsimp only
  refine ⟨⟨by omega, by omega⟩, ⟨by omega, by omega⟩, ⟨by omega, by omega⟩, by omega, by omega⟩

theorem scount_bad (h : TA w lo tb V E R) (hw : Tw V E R) (hE8 : E ≤ 1000) (hV1 : 1 ≤ V) (vv : Value) (zs : List Int) (hL : IV w vv zs) (hln : zs.length ≤ 1000) (c : Int) (hc : c ≠ 0) (hk : Ck12 V R zs c) :
    Calls Tryz.prog 22 #[.pointer (some ⟨tb, 0, none⟩), vv] w fun e w' => e = .returned (.tuple #[mkC (0, 0, 0, 0), .iface 88 (.int .i64 c)]) ∧ Below w.heap.size w w' :=
  count_err _ vv c (fun y hy => comp_bad (h.more hy) hw hE8 hV1 vv zs (hL.below hy) hln c hc hk)

theorem scount_ok (h : TA w lo tb V E R) (hw : Tw V E R) (hE8 : E ≤ 1000) (hV1 : 1 ≤ V) (vv : Value) (l : List Nat) (hL : RN w vv l) (hln : l.length ≤ 1000) (hl : Vl V R l) :
    Calls Tryz.prog 22 #[.pointer (some ⟨tb, 0, none⟩), vv] w fun e w' => e = .returned (.tuple #[mkC ((l.length : Int), ((es V R E).length : Int), ((k2 (fun _ => true) R l + (fcs V R (2 * E)).length : Nat) : Int), (k3 (fun _ => true) (lb V E R) l : Int)), .nilIface]) ∧ Below w.heap.size w w' := by
  rw [← tot_is h.tn hw hl]
  exact count_map vv h.hV (g1_sb hE8 hln) (fun y hy => comp_good (h.more hy) hw hE8 hV1 vv l (hL.below hy) hln hl)

theorem sflat_bad (h : TA w lo tb V E R) (hw : Tw V E R) (hE8 : E ≤ 1000) (hV1 : 1 ≤ V) (vv : Value) (zs : List Int) (hL : IV w vv zs) (hln : zs.length ≤ 1000) (c : Int) (hc : c ≠ 0) (hk : Ck12 V R zs c) :
    Calls Tryz.prog 21 #[.pointer (some ⟨tb, 0, none⟩), vv] w fun e w' => e = .returned (.tuple #[.bool false, .iface 88 (.int .i64 c)]) ∧ Below w.heap.size w w' :=
  flat_err _ vv c (comp_bad h hw hE8 hV1 vv zs hL hln c hc hk)

theorem sflat_ok (h : TA w lo tb V E R) (hw : Tw V E R) (hE8 : E ≤ 1000) (hV1 : 1 ≤ V) (vv : Value) (l : List Nat) (hL : RN w vv l) (hln : l.length ≤ 1000) (hl : Vl V R l) (s : Bool) (hs : s = true ↔ Xi V E R = 0) :
    Calls Tryz.prog 21 #[.pointer (some ⟨tb, 0, none⟩), vv] w fun e w' => e = .returned (.tuple #[.bool s, .nilIface]) ∧ Below w.heap.size w w' :=
  flat_map vv s (by rw [two_is h.tn hw hl, Vl.flat h.tn hw hl]; exact hs) (g1_sb hE8 hln) (comp_good h hw hE8 hV1 vv l hL hln hl)
end
end Go.Proofs.YtghpjljnbdjmaaaGreatDoor

namespace Go.Proofs.YtghpjljnbdjmaaaGreatDoor
open Go.RowKit
set_option linter.unusedVariables false

abbrev R00 : Nat → List Nat := fun _ => []
theorem no00 (V d : Nat) : ¬ In V R00 d := by rintro ⟨v, _, hm⟩; simp at hm
theorem es_new (V E : Nat) : es V R00 E = [] := by
  unfold es
  exact List.filter_eq_nil_iff.2 (fun e _ => by simpa using no00 V (2 * e))
theorem lb_new (V E : Nat) : lb V E R00 = fun x => x := by unfold lb; rw [es_new]; rfl
theorem cc_new (V E : Nat) : cc V E R00 = V := by
  unfold cc
  rw [lb_new, fix_countP]
  simp
theorem fcs_new (V n : Nat) : fcs V R00 n = [] := by
  refine List.eq_nil_iff_forall_not_mem.2 (fun c hc => ?_)
  obtain ⟨z, _, hi, _⟩ := mem_fcs.1 hc
  exact no00 V z hi
theorem iso_new (V : Nat) : iso R00 V = V := by unfold iso; simp
theorem xi_new (V E : Nat) : Xi V E R00 = 0 := by
  unfold Xi
  rw [es_new, fcs_new, iso_new, cc_new]
  simp
  omega

/-- A row of all vertices. -/
theorem rn_below {w w' : World} {v : Value} {l : List Nat} (h : RN w v l) (hb : Below w.heap.size w w') : RN w' v l := h.below hb

section
variable {w : World} {lo tb V E : Nat} {R : Nat → List Nat}

theorem scount_all (h : TA w lo tb V E R) (hw : Tw V E R) (hE8 : E ≤ 1000) (hV1 : 1 ≤ V) (hV : V ≤ 1000) (vv : Value) (hL : RN w vv (List.range V)) :
    Calls Tryz.prog 22 #[.pointer (some ⟨tb, 0, none⟩), vv] w fun e w' => e = .returned (.tuple #[.agg #[.int .i64 (V : Int), .int .i64 ((es V R E).length : Int), .int .i64 ((iso R V + (fcs V R (2 * E)).length : Nat) : Int), .int .i64 (cc V E R : Int)], .nilIface]) ∧ Below w.heap.size w w' := by
  have := scount_ok h hw hE8 hV1 vv (List.range V) hL (by simpa using hV) (Vl.range h.tn hw)
  rw [k2_range h.tn hw, k3_range h.tn hw, List.length_range] at this
  exact this

theorem sflat_all (h : TA w lo tb V E R) (hw : Tw V E R) (hE8 : E ≤ 1000) (hV1 : 1 ≤ V) (hV : V ≤ 1000) (vv : Value) (hL : RN w vv (List.range V)) (s : Bool) (hs : s = true ↔ Xi V E R = 0) :
    Calls Tryz.prog 21 #[.pointer (some ⟨tb, 0, none⟩), vv] w fun e w' => e = .returned (.tuple #[.bool s, .nilIface]) ∧ Below w.heap.size w w' :=
  sflat_ok h hw hE8 hV1 vv (List.range V) hL (by simpa using hV) (Vl.range h.tn hw) s hs
end
end Go.Proofs.YtghpjljnbdjmaaaGreatDoor

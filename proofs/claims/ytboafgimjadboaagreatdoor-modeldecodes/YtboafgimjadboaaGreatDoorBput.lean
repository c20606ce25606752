/- 'put', walked: a dart is laid at a corner. 'take', walked: a dart is taken away. Corners, and how long the lists are. What the Turns' reading calls answer. 'least', 'Degree', 'Round', 'Sizes', 'New', walked. -/
import Derived.Test.YtboafgimjadboaaGreatDoorBdoc
import Derived.Test.YtboafgimjadboaaGreatDoorBlook
import Derived.Deep.CutBlock
import Derived.Deep.QuietTactic
import Derived.Deep.RegionHeld3
namespace Go.Proofs.YtboafgimjadboaaGreatDoor
open Go.RowKit
set_option linter.unusedVariables false

theorem Tm.dlt {w : World} {lo tb V E K M : Nat} {dv sv : Value} {D : Nat → Dr} {S : Nat → Sd} (h : Tm w lo tb dv sv V E K M D S) {x : Nat} (hx : (D x).og ≠ -1) : x < K := by
  rcases Nat.lt_or_ge x K with h1 | h1
  · exact h1
  · rw [h.rd x h1] at hx
    exact absurd rfl hx

theorem up_up {α : Type} (T : Nat → α) (i : Nat) (x y : α) : up (up T i x) i y = up T i y := by
  funext j
  unfold up
  split <;> rfl

/-- Inside 'put', 'take': the Turns, what has turned since w, the variable's block. -/
structure PG (w wx : World) (lo tb g mc gs sc V E K M : Nat) (D : Nat → Dr) (S : Nat → Sd) (bx : Nat) (o : Obj) : Prop where
  tm : Tm wx lo tb (.slice (some ⟨g, 0, none⟩) K mc) (.slice (some ⟨gs, 0, none⟩) M sc) V E K M D S
  kp : Kp lo w wx
  bk : wx.heap[bx]? = some o

section
variable {w wx : World} {lo tb g mc gs cs' V E K M : Nat} {D : Nat → Dr} {S : Nat → Sd} {bx : Nat} {ob : Array Value} {t : TypeId}

theorem PG.drew (h : PG w wx lo tb g mc gs cs' V E K M D S bx (.cells ob t (0, 0))) : PG w wx.drew lo tb g mc gs cs' V E K M D S bx (.cells ob t (0, 0)) := ⟨h.tm.more (Below.refl _ _).drew, h.kp.drew, h.bk⟩

theorem PG.dset (h : PG w wx lo tb g mc gs cs' V E K M D S bx (.cells ob t (0, 0))) (ht : bx ≠ g ∧ bx ≠ gs) {i : Nat} (k : Nat) {u : Value} (n' : Dr) (hi : i < K) (hk : k < 3) (hn : dc n' = (dc (D i)).set k u) :
    PG w (wx.setCell ⟨g, i * 3 + k, none⟩ u) lo tb g mc gs cs' V E K M (up D i n') S bx (.cells ob t (0, 0)) := by
  obtain ⟨h1, h2⟩ := h.tm.dset k n' hi hk hn
  exact ⟨h1, h.kp.trans h2, (Below.heap_setCell _ _ _ _ ht.1).trans h.bk⟩

theorem PG.dset3 (h : PG w wx lo tb g mc gs cs' V E K M D S bx (.cells ob t (0, 0))) (ht : bx ≠ g ∧ bx ≠ gs) {i : Nat} (a b : Nat) (c : Int) (hi : i < K) :
    PG w (((wx.setCell ⟨g, i * 3, none⟩ (.int .i32 (a : Int))).setCell ⟨g, i * 3 + 1, none⟩ (.int .i32 (b : Int))).setCell ⟨g, i * 3 + 2, none⟩ (.int .i32 c)) lo tb g mc gs cs' V E K M (up D i ⟨a, b, c⟩) S bx (.cells ob t (0, 0)) := by
  have h1 := h.dset ht (i := i) 0 (u := .int .i32 (a : Int)) ⟨a, (D i).pv, (D i).og⟩ hi (by decide) rfl
  have h2 := h1.dset ht (i := i) 1 (u := .int .i32 (b : Int)) ⟨a, b, (D i).og⟩ hi (by decide) (by rw [up_same]; rfl)
  have h3 := h2.dset ht (i := i) 2 (u := .int .i32 c) ⟨a, b, c⟩ hi (by decide) (by rw [up_same]; rfl)
  rw [up_up, up_up] at h3
  exact h3

theorem PG.sset (h : PG w wx lo tb g mc gs cs' V E K M D S bx (.cells ob t (0, 0))) (ht : bx ≠ g ∧ bx ≠ gs) {i : Nat} (k : Nat) {u : Value} (n' : Sd) (hi : i < M) (hk : k < 2) (hn : sc n' = (sc (S i)).set k u) :
    PG w (wx.setCell ⟨gs, i * 2 + k, none⟩ u) lo tb g mc gs cs' V E K M D (up S i n') bx (.cells ob t (0, 0)) := by
  obtain ⟨h1, h2⟩ := h.tm.sset k n' hi hk hn
  exact ⟨h1, h.kp.trans h2, (Below.heap_setCell _ _ _ _ ht.2).trans h.bk⟩

/-- A block of another type is none of the rows'. -/
theorem PG.apart (h : PG w wx lo tb g mc gs cs' V E K M D S bx (.cells ob t (0, 0))) (h1 : t ≠ 205) (h2 : t ≠ 234) : bx ≠ g ∧ bx ≠ gs := by
  have hb : Ty wx bx t := ⟨_, _, h.bk⟩
  refine ⟨fun e => ?_, fun e => ?_⟩
  · subst e; exact h1 (hb.uniq (h.tm.dty rfl))
  · subst e; exact h2 (hb.uniq (h.tm.sty rfl))
end

set_option maxRecDepth 100000 in
set_option maxHeartbeats 4000000 in
theorem put_ok {w : World} {lo tb V E K M : Nat} {dv sv : Value} {D : Nat → Dr} {S : Nat → Sd} (d v n b : Nat) (bh : Int) (h : Tm w lo tb dv sv V E K M D S) (hd : d < 2 * E) (hv : v < V) (hdg : (S v).dg ≤ 2097152)
    (hc : (bh = -1 ∧ n = d ∧ b = d) ∨ (bh = (b : Int) ∧ (D b).nx = n ∧ (D b).og ≠ -1 ∧ (D n).og ≠ -1)) :
    Calls Tryz.prog 103 #[.pointer (some ⟨tb, 0, none⟩), .int .i64 (d : Int), .agg #[.int .i64 (v : Int), .int .i64 bh]] w fun e w' => e = .returned (.tuple #[]) ∧ ∃ K' M' dv' sv', Tm w' lo tb dv' sv' V E K' M' (putD D v d n b) (putS S v d) ∧ Kp lo w w' := by
  have hE := h.hE
  have hV := h.hV
  have hh := hid h
  have hbk : Hid ((w.alloc (.cells #[.int .i64 (v : Int), .int .i64 bh] 203)).heap[w.heap.size]? = some (.cells #[.int .i64 (v : Int), .int .i64 bh] 203 (0, 0))) := heap_alloc_new _ _
  have bB := hid (balloc w (.cells #[.int .i64 (v : Int), .int .i64 bh] 203))
  obtain ⟨wb, hwb⟩ : ∃ wb, w.alloc (.cells #[.int .i64 (v : Int), .int .i64 bh] 203) = wb := ⟨_, rfl⟩
  rw [hwb] at hbk bB
  obtain ⟨q0, q1, _, _⟩ := blk2' hbk.out
  clear h
  go_enter Tryz.func103, Tryz.ntmps103
  go_wp2_with fail
  try rw [hwb]
  go_wp2_with fail
  refine (reach_ok d v (hh.out.more bB.out) hd hv).mono ?_
  rintro e w1 ⟨rfl, K1, M1, dv1, sv1, g1, g2, g3, g4⟩
  clear q0 q1 hwb
  obtain ⟨g, mc, rfl, hm1, hm2⟩ := own_form g1.da (by omega)
  obtain ⟨gs, sc', rfl, hs1, hs2⟩ := own_form g1.st (by omega)
  have hK1 := g1.hK
  have hM1 := g1.hM
  have P0 : PG w w1 lo tb g mc gs sc' V E K1 M1 D S w.heap.size (.cells #[.int .i64 (v : Int), .int .i64 bh] 203 (0, 0)) := ⟨g1, (Kp.ofBelow bB.out lo).trans g4, (g4.keep ⟨_, _, hbk.out⟩ (by decide) (by decide) (by decide)).trans hbk.out⟩
  have hap := P0.apart (by decide) (by decide)
  have hb0 : b < K1 ∧ n < K1 ∧ ((bh = -1 ∧ n = d ∧ b = d) ∨ (bh = (b : Int) ∧ (D b).nx = n)) := by
    rcases hc with ⟨h1, h2, h3⟩ | ⟨h1, h2, h3, h4⟩
    · exact ⟨by omega, by omega, .inl ⟨h1, h2, h3⟩⟩
    · exact ⟨g1.dlt h3, g1.dlt h4, .inr ⟨h1, h2⟩⟩
  obtain ⟨hbK, hnK, hc2⟩ := hb0
  have w1d : IntKind.i32.wrap (d : Int) = (d : Int) := by rw [IntKind.wrap_i32]; omega
  have w1b : IntKind.i32.wrap (b : Int) = (b : Int) := by rw [IntKind.wrap_i32]; omega
  have w1v : IntKind.i32.wrap (v : Int) = (v : Int) := by rw [IntKind.wrap_i32]; omega
  replace P0 := hid P0
  clear g1 g4 hh hbk bB hc
  have i1 : (0 : Int) ≤ (d : Int) ∧ (d : Int) < (K1 : Int) ∧ (0 : Int) ≤ (b : Int) ∧ (b : Int) < (K1 : Int) ∧ (0 : Int) ≤ (n : Int) ∧ (n : Int) < (K1 : Int) ∧ (0 : Int) ≤ (v : Int) ∧ (v : Int) < (M1 : Int) := by omega
  obtain ⟨i1, i2, i3, i4, i5, i6, i7, i8⟩ := i1
  obtain ⟨q0, q1, _, _⟩ := blk2' P0.out.bk
  have c2 := P0.out.tm.c2
  go_upto_if 21 with fail
  go_cut [7, 8] from 10 to 32 (fun s7 s8 wx => wx = w1 ∧ s7 = .int .i32 (n : Int) ∧ s8 = .int .i32 (b : Int))
  case first =>
    rcases hc2 with ⟨rfl, rfl, rfl⟩ | ⟨rfl, hbn⟩
    · go_wp2_with fail
      go_meet
      case rel => exact ⟨rfl, rfl, rfl⟩
    · have t1 : ((b : Int) != -1) = true := bne_iff_ne.2 (by omega)
      have t2 : ((b : Int) == -1) = false := beq_false_of_ne (by omega)
      obtain ⟨a0, _, _⟩ := P0.out.tm.dat hbK
      rw [hbn] at a0
      replace hbn := hid hbn
      go_wp2_with fail
      go_meet
      case rel => exact ⟨rfl, rfl, rfl⟩
  case rest =>
    obtain ⟨rfl, rfl, rfl⟩ := hcut
    go_upto_region 7 with fail
    go_cut [33] from 33 to 44 (fun _ wx => Hid (PG w wx lo tb g mc gs sc' V E K1 M1 (up D d ⟨n, b, (v : Int)⟩) S w.heap.size (.cells #[.int .i64 (v : Int), .int .i64 bh] 203 (0, 0))))
    case first =>
      obtain ⟨a0, a1, a2⟩ := P0.out.tm.dat (show d < K1 from g2)
      have z0 := P0.out.tm.da.frozenAt (d * 3)
      have z1 := P0.out.tm.da.frozenAt (d * 3 + 1)
      have z2 := P0.out.tm.da.frozenAt (d * 3 + 2)
      have s5 := hid (P0.out.dset3 hap (i := d) n b (v : Int) g2).drew
      go_region
      all_goals
        go_wp2_with fail
        go_meet
        case rel => exact s5
    case rest =>
      clear P0 c2 q0 q1
      have H := hcut
      clear hcut
      obtain ⟨e0, _, _⟩ := H.out.tm.dat (i := b) hbK
      have z0 := H.out.tm.da.frozenAt (b * 3)
      have c2 := H.out.tm.c2
      have s5 := H.out.dset hap (i := b) 0 (u := .int .i32 (d : Int)) ⟨d, (up D d ⟨n, b, (v : Int)⟩ b).pv, (up D d ⟨n, b, (v : Int)⟩ b).og⟩ hbK (by decide) rfl
      simp only [Nat.add_zero] at s5
      replace s5 := hid s5
      go_upto_region 9 with fail
      generalize wc.setCell ⟨g, b * 3, none⟩ (.int .i32 (d : Int)) = wd at s5 ⊢
      clear H e0 z0 c2
      obtain ⟨_, e1, _⟩ := s5.out.tm.dat (i := n) hnK
      have z1 := s5.out.tm.da.frozenAt (n * 3 + 1)
      have c2 := s5.out.tm.c2
      obtain ⟨D2, hD2⟩ : ∃ D2, up (up D d ⟨n, b, (v : Int)⟩) b ⟨d, (up D d ⟨n, b, (v : Int)⟩ b).pv, (up D d ⟨n, b, (v : Int)⟩ b).og⟩ = D2 := ⟨_, rfl⟩
      rw [hD2] at s5 e1
      have hfinD : Hid (up D2 n ⟨(D2 n).nx, d, (D2 n).og⟩ = putD D v d n b) := by rw [← hD2]; exact hid rfl
      have s6 := s5.out.dset hap (i := n) 1 (u := .int .i32 (d : Int)) ⟨(D2 n).nx, d, (D2 n).og⟩ hnK (by decide) rfl
      rw [hfinD.out] at s6
      replace s6 := hid s6
      clear hD2 hfinD
      go_upto_region 10 with fail
      generalize wd.setCell ⟨g, n * 3 + 1, none⟩ (.int .i32 (d : Int)) = we at s6 ⊢
      clear s5 e1 z1 c2
      have c3 := s6.out.tm.c3
      obtain ⟨q0, q1, _, _⟩ := blk2' s6.out.bk
      go_region_held3 (fun y => y.cell? ⟨tb, 3, none⟩ = some (.slice (some ⟨gs, 0, none⟩) M1 sc') ∧ y.cell? ⟨w.heap.size, 0, none⟩ = some (.int .i64 (v : Int))) (go_keep) (fail)
      go_upto_region 11 with fail
      replace s6 := hid s6.out.drew
      clear c3 q0 q1
      generalize we.drew = wf at s6 ⊢
      obtain ⟨a0, _⟩ := s6.out.tm.sat (i := v) g3
      have z0 := s6.out.tm.st.frozenAt (v * 2)
      have s7 := s6.out.sset hap (i := v) 0 (u := .int .i32 (((S v).dg : Int) + 1)) ⟨(S v).dg + 1, (S v).so⟩ g3 (by decide) (by simp [sc])
      simp only [Nat.add_zero] at s7
      replace s7 := hid s7
      go_upto_region 12 with fail
      generalize wf.setCell ⟨gs, v * 2, none⟩ (.int .i32 (((S v).dg : Int) + 1)) = wg at s7 ⊢
      clear s6 a0 z0
      obtain ⟨_, a1⟩ := s7.out.tm.sat (i := v) g3
      have z1 := s7.out.tm.st.frozenAt (v * 2 + 1)
      have s8 := s7.out.sset hap (i := v) 1 (u := .int .i32 (d : Int)) ⟨(S v).dg + 1, d⟩ g3 (by decide) (by rw [up_same]; rfl)
      rw [up_up] at s8
      replace s8 := hid s8
      clear s7
      go_wp2_with fail
      go_end0
      exact ⟨rfl, K1, M1, _, _, s8.out.tm, s8.out.kp⟩

end Go.Proofs.YtboafgimjadboaaGreatDoor

namespace Go.Proofs.YtboafgimjadboaaGreatDoor
open Go.RowKit
set_option linter.unusedVariables false

theorem PG.more {w wx wy : World} {lo tb g mc gs cs' V E K M : Nat} {D : Nat → Dr} {S : Nat → Sd} {bx : Nat} {o : Obj} (h : PG w wx lo tb g mc gs cs' V E K M D S bx o) (hb : Below wx.heap.size wx wy) : PG w wy lo tb g mc gs cs' V E K M D S bx o :=
  ⟨h.tm.more hb, h.kp.trans (Kp.ofBelow hb lo), (hb.block _ (Array.getElem?_eq_some_iff.1 h.bk).1).trans h.bk⟩



end Go.Proofs.YtboafgimjadboaaGreatDoor

namespace Go.Proofs.YtboafgimjadboaaGreatDoor
open Go.RowKit
set_option linter.unusedVariables false

theorem pig : ∀ (l m : List Nat), l.Nodup → (∀ x, x ∈ l → x ∈ m) → l.length ≤ m.length
  | [], m, _, _ => by simp
  | x :: l, m, hn, hs => by
    have hx := hs x List.mem_cons_self
    obtain ⟨h1, h2⟩ := List.nodup_cons.1 hn
    have hlen := List.length_erase_of_mem hx
    have hpos : 0 < m.length := List.length_pos_of_mem hx
    have h3 := pig l (m.erase x) h2 (fun y hy => by
      have hne : y ≠ x := fun e => h1 (e ▸ hy)
      exact (List.mem_erase_of_ne hne).2 (hs y (List.mem_cons_of_mem _ hy)))
    simp
    omega

theorem Tn.len {V E : Nat} {R : Nat → List Nat} (h : Tn V E R) {v : Nat} (hv : v < V) : (R v).length ≤ 2 * E := by
  have := pig (R v) (List.range (2 * E)) (h.nd v hv) (fun x hx => List.mem_range.2 (h.low v x hv hx))
  simpa using this

/-- What a corner is behind. -/
def co (b : Int) : Option Nat := if b < 0 then none else some b.toNat
theorem co_none : co (-1) = none := rfl
theorem co_some (k : Nat) : co (k : Int) = some k := by unfold co; rw [if_neg (by omega)]; simp

end Go.Proofs.YtboafgimjadboaaGreatDoor

namespace Go.Proofs.YtboafgimjadboaaGreatDoor
open Go.RowKit
set_option linter.unusedVariables false

/-- The Turns at tb, made since lo: what stands round each vertex. -/
def TA (w : World) (lo tb V E : Nat) (R : Nat → List Nat) : Prop := ∃ dv sv K M D S, Tm w lo tb dv sv V E K M D S ∧ Tt V E D S R

section
variable {w w' : World} {lo tb V E : Nat} {R : Nat → List Nat}

theorem TA.more (h : TA w lo tb V E R) (hb : Below w.heap.size w w') : TA w' lo tb V E R := by
  obtain ⟨dv, sv, K, M, D, S, h1, h2⟩ := h
  exact ⟨dv, sv, K, M, D, S, h1.more hb, h2⟩
theorem TA.tn (h : TA w lo tb V E R) : Tn V E R := by
  obtain ⟨dv, sv, K, M, D, S, h1, h2⟩ := h
  exact h2.tn
theorem TA.hV (h : TA w lo tb V E R) : V ≤ 1048576 := by
  obtain ⟨dv, sv, K, M, D, S, h1, h2⟩ := h
  exact h1.hV
theorem TA.hE (h : TA w lo tb V E R) : E ≤ 1048576 := by
  obtain ⟨dv, sv, K, M, D, S, h1, h2⟩ := h
  exact h1.hE
theorem TA.hlo (h : TA w lo tb V E R) : lo ≤ w.heap.size := by
  obtain ⟨dv, sv, K, M, D, S, h1, h2⟩ := h
  have := h1.lt
  have := h1.low
  omega

set_option maxRecDepth 100000 in
set_option maxHeartbeats 1000000 in
theorem has_ok (h : TA w lo tb V E R) (e : Nat) (b : Bool) (he : e < E) (hb : b = true ↔ In V R (2 * e)) : Calls Tryz.prog 131 #[.pointer (some ⟨tb, 0, none⟩), .int .i64 (e : Int)] w fun x w' => x = .returned (.bool b) ∧ Below w.heap.size w w' := by
  obtain ⟨dv, sv, K, M, D, S, h1, h2⟩ := h
  have hh := hid (holds_ok e b h1 he (fun q => (h2.laid _).2 (hb.1 q)) (fun q => h2.off _ (fun hi => by have := hb.2 hi; rw [q] at this; cases this)))
  clear h1 h2 he hb
  go_enter Tryz.func131, Tryz.ntmps131
  go_wp2_with fail
  refine hh.out.mono ?_
  rintro x w1 ⟨rfl, b1⟩
  replace b1 := hid b1
  go_wp2_with fail
  go_ret
  exact ⟨rfl, b1.out⟩

/-- What 'find' answers, whatever it is: the numbers, and the error. -/
theorem find_any (h : TA w lo tb V E R) (d : Int) : ∃ (n p : Nat) (o : Int) (r : Value), (∀ y, Below w.heap.size w y → Calls Tryz.prog 133 #[.pointer (some ⟨tb, 0, none⟩), .int .i64 d] y fun e w' => e = .returned (.tuple #[.agg #[.int .i32 (n : Int), .int .i32 (p : Int), .int .i32 o], r]) ∧ Below y.heap.size y w') ∧
    ((r = .iface 67 (.int .i64 12) ∧ n = 0 ∧ p = 0 ∧ o = 0 ∧ (d < 0 ∨ 2 * (E : Int) ≤ d)) ∨ (r = .iface 67 (.int .i64 13) ∧ n = 0 ∧ p = 0 ∧ o = 0 ∧ ∃ k : Nat, d = (k : Int) ∧ k < 2 * E ∧ ¬ In V R k) ∨ (r = .nilIface ∧ ∃ k u : Nat, d = (k : Int) ∧ u < V ∧ k ∈ R u ∧ n = nx (R u) k ∧ p = pv (R u) k ∧ o = (u : Int))) := by
  obtain ⟨dv, sv, K, M, D, S, h1, h2⟩ := h
  by_cases hd : d < 0 ∨ 2 * (E : Int) ≤ d
  · exact ⟨0, 0, 0, .iface 67 (.int .i64 12), fun y hy => find_range d (h1.more hy) hd, .inl ⟨rfl, rfl, rfl, rfl, hd⟩⟩
  · obtain ⟨k, rfl⟩ : ∃ k : Nat, d = (k : Int) := ⟨d.toNat, by omega⟩
    have hk : k < 2 * E := by omega
    by_cases hi : In V R k
    · obtain ⟨u, hu, hm⟩ := hi
      have e := h2.on u k hu hm
      refine ⟨nx (R u) k, pv (R u) k, (u : Int), .nilIface, fun y hy => ?_, .inr (.inr ⟨rfl, k, u, rfl, hu, hm, rfl, rfl, rfl⟩)⟩
      have := find_ok k (h1.more hy) hk (by rw [e]; simp only []; omega)
      rw [e] at this
      exact this
    · exact ⟨0, 0, 0, .iface 67 (.int .i64 13), fun y hy => find_stale k (h1.more hy) hk (h2.off k hi), .inr (.inl ⟨rfl, rfl, rfl, rfl, k, rfl, hk, hi⟩)⟩

theorem low32 (h : TA w lo tb V E R) {u k : Nat} (hu : u < V) (hm : k ∈ R u) : k < 2097152 := by
  have := h.tn.low u k hu hm
  have := h.hE
  omega

/-- Next, Prev, Origin: what they answer. -/
def Nxt (V E : Nat) (R : Nat → List Nat) (d : Int) (n p o : Int) (r : Value) : Prop :=
  (r = .iface 67 (.int .i64 12) ∧ n = 0 ∧ p = 0 ∧ o = 0 ∧ (d < 0 ∨ 2 * (E : Int) ≤ d)) ∨ (r = .iface 67 (.int .i64 13) ∧ n = 0 ∧ p = 0 ∧ o = 0 ∧ ∃ k : Nat, d = (k : Int) ∧ k < 2 * E ∧ ¬ In V R k) ∨ (r = .nilIface ∧ ∃ k u : Nat, d = (k : Int) ∧ u < V ∧ k ∈ R u ∧ n = (nx (R u) k : Int) ∧ p = (pv (R u) k : Int) ∧ o = (u : Int))

theorem Nxt.of {d : Int} {n p : Nat} {o : Int} {r : Value} (h : (r = .iface 67 (.int .i64 12) ∧ n = 0 ∧ p = 0 ∧ o = 0 ∧ (d < 0 ∨ 2 * (E : Int) ≤ d)) ∨ (r = .iface 67 (.int .i64 13) ∧ n = 0 ∧ p = 0 ∧ o = 0 ∧ ∃ k : Nat, d = (k : Int) ∧ k < 2 * E ∧ ¬ In V R k) ∨ (r = .nilIface ∧ ∃ k u : Nat, d = (k : Int) ∧ u < V ∧ k ∈ R u ∧ n = nx (R u) k ∧ p = pv (R u) k ∧ o = (u : Int))) : Nxt V E R d (n : Int) (p : Int) o r := by
  rcases h with ⟨h1, h2, h3, h4, h5⟩ | ⟨h1, h2, h3, h4, h5⟩ | ⟨h1, k, u, h2, h3, h4, h5, h6, h7⟩
  · exact .inl ⟨h1, by omega, by omega, h4, h5⟩
  · exact .inr (.inl ⟨h1, by omega, by omega, h4, h5⟩)
  · exact .inr (.inr ⟨h1, k, u, h2, h3, h4, by rw [h5], by rw [h6], h7⟩)

set_option maxRecDepth 100000 in
set_option maxHeartbeats 1000000 in
theorem three_next {tb : Nat} {d : Int} (n p : Nat) (o : Int) (r : Value) (y : World) (hf : Calls Tryz.prog 133 #[.pointer (some ⟨tb, 0, none⟩), .int .i64 d] y fun e w' => e = .returned (.tuple #[.agg #[.int .i32 (n : Int), .int .i32 (p : Int), .int .i32 o], r]) ∧ Below y.heap.size y w') (hw : (0 : Int) ≤ (n : Int) ∧ (n : Int) ≤ 2097152 ∧ (0 : Int) ≤ (p : Int) ∧ (p : Int) ≤ 2097152 ∧ 0 ≤ o ∧ o ≤ 1048576) :
    Calls Tryz.prog 147 #[.pointer (some ⟨tb, 0, none⟩), .int .i64 d] y fun e w' => e = .returned (.tuple #[.int .i64 (n : Int), r]) ∧ Below y.heap.size y w' := by
  obtain ⟨h1, h2, h3, h4, h5, h6⟩ := hw
  replace hf := hid hf
  go_enter Tryz.func147, Tryz.ntmps147
  go_wp2_with fail
  refine hf.out.mono ?_
  rintro x w1 ⟨rfl, b1⟩
  have hb := hid (b1.alloc b1.size (.cells #[.int .i32 (n : Int), .int .i32 (p : Int), .int .i32 o] 205))
  clear b1
  go_wp2_with fail
  go_ret2
  exact ⟨rfl, hb.out⟩

set_option maxRecDepth 100000 in
set_option maxHeartbeats 1000000 in
theorem three_origin {tb : Nat} {d : Int} (n p : Nat) (o : Int) (r : Value) (y : World) (hf : Calls Tryz.prog 133 #[.pointer (some ⟨tb, 0, none⟩), .int .i64 d] y fun e w' => e = .returned (.tuple #[.agg #[.int .i32 (n : Int), .int .i32 (p : Int), .int .i32 o], r]) ∧ Below y.heap.size y w') (hw : (0 : Int) ≤ (n : Int) ∧ (n : Int) ≤ 2097152 ∧ (0 : Int) ≤ (p : Int) ∧ (p : Int) ≤ 2097152 ∧ 0 ≤ o ∧ o ≤ 1048576) :
    Calls Tryz.prog 114 #[.pointer (some ⟨tb, 0, none⟩), .int .i64 d] y fun e w' => e = .returned (.tuple #[.int .i64 o, r]) ∧ Below y.heap.size y w' := by
  obtain ⟨h1, h2, h3, h4, h5, h6⟩ := hw
  replace hf := hid hf
  go_enter Tryz.func114, Tryz.ntmps114
  go_wp2_with fail
  refine hf.out.mono ?_
  rintro x w1 ⟨rfl, b1⟩
  have hb := hid (b1.alloc b1.size (.cells #[.int .i32 (n : Int), .int .i32 (p : Int), .int .i32 o] 205))
  clear b1
  go_wp2_with fail
  go_ret2
  exact ⟨rfl, hb.out⟩

/-- Next and Origin of one dart have one outcome. -/
theorem two_ok (h : TA w lo tb V E R) (d : Int) : ∃ (n p o : Int) (r : Value), Nxt V E R d n p o r ∧
    (∀ y, Below w.heap.size w y → Calls Tryz.prog 147 #[.pointer (some ⟨tb, 0, none⟩), .int .i64 d] y fun e w' => e = .returned (.tuple #[.int .i64 n, r]) ∧ Below y.heap.size y w') ∧
    (∀ y, Below w.heap.size w y → Calls Tryz.prog 114 #[.pointer (some ⟨tb, 0, none⟩), .int .i64 d] y fun e w' => e = .returned (.tuple #[.int .i64 o, r]) ∧ Below y.heap.size y w') := by
  obtain ⟨n, p, o, r, hf, hr⟩ := find_any h d
  have hw : (0 : Int) ≤ (n : Int) ∧ (n : Int) ≤ 2097152 ∧ (0 : Int) ≤ (p : Int) ∧ (p : Int) ≤ 2097152 ∧ 0 ≤ o ∧ o ≤ 1048576 := by
    rcases hr with ⟨_, h2, h3, h4, h5⟩ | ⟨_, h2, h3, h4, h5⟩ | ⟨_, k, u, _, h3, h4, h5, h6, h7⟩
    · omega
    · omega
    · have q1 := low32 h h3 (nx_mem h4)
      have q2 := low32 h h3 (pv_mem (h.tn.nd u h3) h4).1
      have := h.hV
      omega
  refine ⟨(n : Int), (p : Int), o, r, Nxt.of hr, fun y hy => ?_, fun y hy => ?_⟩
  · exact three_next n p o r y (hf y hy) hw
  · exact three_origin n p o r y (hf y hy) hw
end

end Go.Proofs.YtboafgimjadboaaGreatDoor

namespace Go.Proofs.YtboafgimjadboaaGreatDoor
open Go.RowKit
set_option linter.unusedVariables false

/-- The least of those gone over. -/
def Lt (l : List Nat) (x i y : Nat) : Prop := y ∈ l ∧ ∀ k, k < i → y ≤ itn (nx l) k x

section
variable {w : World} {lo tb V E : Nat} {R : Nat → List Nat}



theorem TA.stand (h : TA w lo tb V E R) (v : Nat) (hv : v < V) : ∃ dg so : Nat, dg = (R v).length ∧ (R v ≠ [] → so ∈ R v) ∧ dg ≤ 2097152 ∧ Calls Tryz.prog 144 #[.pointer (some ⟨tb, 0, none⟩), .int .i64 (v : Int)] w fun e w' => e = .returned (.tuple #[.agg #[.int .i32 (dg : Int), .int .i32 (so : Int)], .nilIface]) ∧ Below w.heap.size w w' := by
  have hl := h.tn.len hv
  have hEb := h.hE
  obtain ⟨dv, sv, K, M, D, S, h1, h2⟩ := h
  exact ⟨(S v).dg, (S v).so, h2.deg v hv, h2.som v hv, by rw [h2.deg v hv]; omega, stand_ok v h1 hv⟩

set_option maxRecDepth 100000 in
set_option maxHeartbeats 1000000 in
theorem degree_ok (h : TA w lo tb V E R) (v : Nat) (hv : v < V) : Calls Tryz.prog 137 #[.pointer (some ⟨tb, 0, none⟩), .int .i64 (v : Int)] w fun x w' => x = .returned (.tuple #[.int .i64 ((R v).length : Int), .nilIface]) ∧ Below w.heap.size w w' := by
  obtain ⟨dg, so, hdg, _, hle, hh⟩ := h.stand v hv
  rw [← hdg]
  replace hh := hid hh
  clear h hv hdg
  go_enter Tryz.func137, Tryz.ntmps137
  go_wp2_with fail
  refine hh.out.mono ?_
  rintro x w1 ⟨rfl, b1⟩
  have hb := hid (b1.alloc b1.size (.cells #[.int .i32 (dg : Int), .int .i32 (so : Int)] 234))
  clear b1
  go_wp2_with fail
  go_ret2
  exact ⟨rfl, hb.out⟩





set_option maxRecDepth 100000 in
set_option maxHeartbeats 1000000 in
theorem sizes_ok (h : TA w lo tb V E R) : Calls Tryz.prog 123 #[.pointer (some ⟨tb, 0, none⟩)] w fun x w' => x = .returned (.tuple #[.int .i64 (V : Int), .int .i64 (E : Int)]) ∧ ∃ m, w' = w.drewN m := by
  obtain ⟨dv, sv, K, M, D, S, h1, h2⟩ := h
  have c0 := h1.c0
  have c1 := h1.c1
  clear h1 h2
  go_enter Tryz.func123, Tryz.ntmps123
  go_wp2_with fail
  go_quiet (fail)
  go_wp2_with fail
  go_ret2
  exact ⟨rfl, _, rfl⟩

theorem pair_at (a b : Int) (w : World) : (Instr.index 197 (.agg #[.int .i64 a, .int .i64 b]) (.int .i64 0)).run Tryz.prog w = .ok (.int .i64 a) w ∧ (Instr.index 197 (.agg #[.int .i64 a, .int .i64 b]) (.int .i64 1)).run Tryz.prog w = .ok (.int .i64 b) w := by
  obtain ⟨i0, hif, hz0, hz1, hz2⟩ := info_parts infoInt
  constructor <;> simp [Instr.index, asIntOf, run_underlying Tryz.underlying197, part, Go.sizeOf, typeInfo, hif, hz1, isAgg, run_underlying Tryz.underlying3, go_sem]
end

end Go.Proofs.YtboafgimjadboaaGreatDoor

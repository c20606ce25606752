/- Where the document's Round stands: its rows, its vertices. The document's Round, walked. -/
import Derived.Test.YtboafgimjadboaaGreatDoorArBlist
import Derived.Test.YtboafgimjadboaaGreatDoorBcyc
import Derived.Test.YtboafgimjadboaaGreatDoorBrld
import Derived.Test.YtboafgimjadboaaGreatDoorBrow
import Derived.Test.YtboafgimjadboaaGreatDoorFits17
import Derived.Test.YtboafgimjadboaaGreatDoorRFlat12
import Derived.Test.YtboafgimjadboaaGreatDoorRound17
import Derived.Deep.AppendLies
namespace Go.Proofs.YtboafgimjadboaaGreatDoor
open Go.RowKit
set_option linter.unusedVariables false

/-- The first vertices' rows. -/
noncomputable def rwP (m : Mo) (V v : Nat) : List (List Nat) := (List.range V).map (fun u => if u < v then row17 m u else [])
theorem rwP_get {m : Mo} {V v i : Nat} (h : i < V) : (rwP m V v)[i]? = some (if i < v then row17 m i else []) := by simp [rwP, h]
theorem rwP_len (m : Mo) (V v : Nat) : (rwP m V v).length = V := by simp [rwP]
theorem rwP_all (m : Mo) : rwP m m.vs.length m.vs.length = rws m := by
  apply List.ext_getElem?
  intro i
  by_cases h : i < m.vs.length
  · rw [rwP_get h, if_pos h]
    unfold rws
    rw [rwB_get h]; rfl
  · rw [List.getElem?_eq_none (by rw [rwP_len]; omega), List.getElem?_eq_none (by rw [rws_len]; omega)]

/-- Apart from a row that is one's own. -/
def Ap (u sv : Value) : Prop := u.ownBlock = none ∨ u.ownBlock ≠ sv.ownBlock

/-- Where it stands: the table of rows, the rows, the vertices. -/
structure RS (m : Mo) (V B3 B5 g1 : Nat) (w5 : World) (v vx : Nat) (us : List Value) (sv : Value) (w : World) : Prop where
  ul : us.length = V
  tab : w.ownsRow B3 55 1 (.slice (some ⟨g1, 0, none⟩) V V) V us
  row : ∀ (i : Nat) l u, (rwP m V v)[i]? = some l → us[i]? = some u → Rw B5 w u l ∧ Ap u sv
  nil : ∀ i, v ≤ i → i < V → us[i]? = some (.slice none 0 0)
  ve : Rw B5 w sv (Ar.lv m.vs vx)
  tur : Ar.Turned (fun k => k = g1) w5 w
  low : g1 < B5
  sz : B5 = w5.heap.size

theorem own_lt {w : World} {base n size : Nat} {e : TypeId} {v : Value} {xs : List Value} (h : w.ownsRow base e size v n xs) {k : Nat} (hk : v.ownBlock = some k) : base ≤ k ∧ k < w.heap.size := h.lt k hk

section
variable {m : Mo} {V B3 B5 g1 v vx : Nat} {w5 w w' : World} {us : List Value} {sv : Value}

theorem RS.more (h : RS m V B3 B5 g1 w5 v vx us sv w) (hb : Below w.heap.size w w') : RS m V B3 B5 g1 w5 v vx us sv w' :=
  ⟨h.ul, ownsRow_below h.tab hb, fun i l u a b => ⟨(h.row i l u a b).1.more hb, (h.row i l u a b).2⟩, h.nil, h.ve.more hb, h.tur.trans (Ar.Turned.ofBelow hb _), h.low, h.sz⟩

/-- A row's block is no new one. -/
theorem RS.old (h : RS m V B3 B5 g1 w5 v vx us sv w) {g : Nat} (hg : w.heap.size ≤ g) : ∀ (i : Nat) (u : Value), us[i]? = some u → u.ownBlock ≠ some g := fun i u hu e => by
  have hi := (List.getElem?_eq_some_iff.1 hu).1
  rw [h.ul] at hi
  have := (own_lt (h.row i _ u (rwP_get hi) hu).1 e).2
  omega

/-- A vertex comes. -/
theorem RS.push (h : RS m V B3 B5 g1 w5 v vx us sv w) {g cap n : Nat} (hy : (Ar.atP m.vs vx).2 = 1) (ho : w'.ownsRow B5 3 1 (.slice (some ⟨g, 0, none⟩) n cap) n (ncs (Ar.lv m.vs vx) ++ [.int .i64 (vx : Int)])) (hn : n = (Ar.lv m.vs vx).length + 1) (hg : w.grownBy w' sv.ownBlock) (hw : sv.ownBlock = some g ∨ ∀ (i : Nat) (u : Value), us[i]? = some u → u.ownBlock ≠ some g) :
    RS m V B3 B5 g1 w5 v (vx + 1) us (.slice (some ⟨g, 0, none⟩) n cap) w' := by
  refine ⟨h.ul, ?_, fun i l u a b => ?_, h.nil, ?_, ?_, h.low, h.sz⟩
  · refine World.ownsRow.kept h.tab hg (.inr (fun e => ?_))
    have h1 : B5 ≤ g1 := (own_lt h.ve e.symm).1
    have := h.low
    omega
  · obtain ⟨q1, q2⟩ := h.row i l u a b
    refine ⟨World.ownsRow.kept q1 hg q2, ?_⟩
    rcases q2 with q | q
    · exact .inl q
    · rcases hw with e | e
      · right
        rw [e] at q
        exact q
      · right
        exact e i u b
  · unfold Rw
    rw [Ar.lv_succ, if_pos hy, List.length_append, ncs_append, show (Ar.lv m.vs vx).length + [vx].length = n from hn.symm]
    exact ho
  · refine h.tur.then (Ar.Turned.ofGrown (S := fun k => B5 ≤ k) hg (fun k hk => (own_lt h.ve hk).1)) (fun i hi hS => ?_)
    have := h.sz
    omega

/-- None comes. -/
theorem RS.pass (h : RS m V B3 B5 g1 w5 v vx us sv w) (hy : ¬ (Ar.atP m.vs vx).2 = 1) : RS m V B3 B5 g1 w5 v (vx + 1) us sv w :=
  ⟨h.ul, h.tab, h.row, h.nil, by rw [Ar.lv_succ, if_neg hy, List.append_nil]; exact h.ve, h.tur, h.low, h.sz⟩

/-- A row is made. -/
theorem RS.next (h : RS m V B3 B5 g1 w5 v vx us sv w) (hv : v < V) {rv : Value} (ht : Ar.Turned (fun k => k = g1) w w') (htab : w'.ownsRow B3 55 1 (.slice (some ⟨g1, 0, none⟩) V V) V (us.set v rv)) (hrv : Rw w.heap.size w' rv (row17 m v)) : RS m V B3 B5 g1 w5 (v + 1) vx (us.set v rv) sv w' := by
  have hB : B5 ≤ w.heap.size := by rw [h.sz]; exact h.tur.size
  have hkeep : ∀ (u : Value) (l : List Nat), Rw B5 w u l → Rw B5 w' u l := fun u l q => by
    refine ⟨q.1, ?_⟩
    rcases q.2 with h2 | ⟨g, cap, cur, e1, e2, e3, r⟩
    · exact .inl h2
    · refine .inr ⟨g, cap, cur, e1, e2, ?_, r⟩
      rw [ht.block g (Array.getElem?_eq_some_iff.1 e3).1 (by have := h.low; omega)]
      exact e3
  refine ⟨by rw [List.length_set]; exact h.ul, htab, fun i l u a b => ?_, fun i hi hV => ?_, hkeep _ _ h.ve, h.tur.trans ht, h.low, h.sz⟩
  · have hi : i < V := by have := (List.getElem?_eq_some_iff.1 a).1; rwa [rwP_len] at this
    rw [rwP_get hi] at a
    rw [List.getElem?_set] at b
    by_cases e : v = i
    · subst e
      rw [if_pos rfl, if_pos (by rw [h.ul]; exact hv)] at b
      rw [if_pos (by omega)] at a
      cases a; cases b
      refine ⟨hrv.low hB, ?_⟩
      cases e : rv.ownBlock with
      | none => exact .inl e
      | some k =>
        refine .inr (fun q => ?_)
        have h1 := (own_lt hrv e).1
        rw [e] at q
        have h2 := (own_lt h.ve q.symm).2
        omega
    · rw [if_neg e] at b
      obtain ⟨q1, q2⟩ := h.row i l u (by rw [rwP_get hi, ← a]; congr 1; by_cases c : i < v <;> simp [c] <;> omega) b
      exact ⟨hkeep _ _ q1, q2⟩
  · rw [List.getElem?_set, if_neg (by omega)]
    exact h.nil i (by omega) hV

theorem RS.rl (h : RS m V B3 B5 g1 w5 V vx us sv w) (hV : m.vs.length = V) (hb : B3 ≤ B5) : Rg B3 w (.slice (some ⟨g1, 0, none⟩) V V) (rws m) := by
  have e := rwP_all m
  rw [hV] at e
  refine ⟨us, by rw [h.ul, rws_len, hV], by rw [rws_len, hV]; exact h.tab, fun i l u a b => ?_⟩
  rw [← e] at a
  exact ((h.row i l u a b).1).low hb
end

end Go.Proofs.YtboafgimjadboaaGreatDoor

namespace Go.Proofs.YtboafgimjadboaaGreatDoor
open Go.RowKit
set_option linter.unusedVariables false

theorem set_same {α : Type} {l : List α} {i : Nat} {x : α} (h : l[i]? = some x) : l.set i x = l := by
  apply List.ext_getElem?
  intro j
  rw [List.getElem?_set]
  by_cases e : i = j
  · subst e
    rw [if_pos rfl, if_pos (List.getElem?_eq_some_iff.1 h).1, h]
  · rw [if_neg e]

theorem own_off2 {w : World} {base e size n sb : Nat} {v : Value} {xs : List Value} (h : w.ownsRow base e size v n xs) (hs : sb < base) : v.ownBlock ≠ some sb := fun e => by
  have := (own_lt h e).1
  omega

theorem rload_at {V E : Nat} {u : Value} {ls : List (List Int)} {W : World} (a b : Int) (ha : a = (V : Int)) (hb : b = (E : Int)) (h1 : 1 ≤ V) (h2 : V ≤ 1000) (h4 : E ≤ 400) (hu : RV W u ls) :
    Calls Tryz.prog 32 #[.int .i64 a, .int .i64 b, u] W fun x w' => Below W.heap.size W w' ∧ ((Good V E ls ∧ ∃ xa xc, x = .returned (.tuple #[.agg #[.int .i64 (E : Int), .slice xa V xc], .bool true]) ∧ RT w' (.agg #[.int .i64 (E : Int), .slice xa V xc]) E V (RR ls ls.length 0)) ∨ (¬ Good V E ls ∧ x = .returned (.tuple #[.agg #[.int .i64 0, .slice none 0 0], .bool false]))) := by
  subst ha hb
  refine (rload_any h1 h2 h4 hu).mono ?_
  rintro e w' ⟨hb, ⟨hg, tv, rfl, hr⟩ | h⟩
  · obtain ⟨lv, rfl, hn⟩ := id hr
    obtain ⟨xa, xc, rfl, _⟩ := id hn
    exact ⟨hb, .inl ⟨hg, xa, xc, rfl, hr⟩⟩
  · exact ⟨hb, .inr h⟩

/-- Gone round, the vertices before. -/
def HR (m : Mo) (v : Nat) : Prop := ∀ u d l, u < v → vdt m u (dtl m) = d :: l → ∀ i, 0 < i → i < l.length + 1 → Pq.it m.f i d ≠ d

set_option maxRecDepth 100000 in
set_option maxHeartbeats 8000000 in
theorem rround17_ok {w : World} {n : Int} {vv ev lv : Value} {m : Mo} (hm : Mp w vv ev lv m) (hn : m.n = n) (hvl : m.vs.length ≤ 400) (hel : m.es.length ≤ 400) (hll : m.l.length ≤ 400) :
    Calls Tryz.prog 13 #[.agg #[.int .i64 n, vv, ev, lv]] w fun e w' => Below w.heap.size w w' ∧ ((May m ∧ ∃ a k c, e = .returned (.tuple #[.slice a k c, .bool true]) ∧ RL w' (.slice a k c) (rws m)) ∨ (¬ May m ∧ e = .returned (.tuple #[.slice none 0 0, .bool false]))) := by
  obtain ⟨j0, jf, jz0, jz1, jz2⟩ := info_parts infoInt
  obtain ⟨i1, hif, hz0, hz1, hz2⟩ := info_parts infoInts
  have hmh := hid hm
  obtain ⟨va, vn, vc, rfl, hV, _, _, _⟩ := hm.vs
  obtain ⟨ea, en, ec, rfl, hE, _, _, _⟩ := hm.es
  obtain ⟨la, ln, lc, rfl, hL, _, _⟩ := hm.l
  have hvn := hid hV.len
  have hen := hid hE.len
  have hln := hid hL.len
  have hsz : Hid (m.vs.length ≤ 400 ∧ m.es.length ≤ 400 ∧ m.l.length ≤ 400) := ⟨hvl, hel, hll⟩
  have hv40 : vn ≤ 400 := by rw [← hvn.out]; exact hvl
  obtain ⟨w1, hw1⟩ : ∃ w1, w.alloc (.cells #[.int .i64 n, .slice va vn vc, .slice ea en ec, .slice la ln lc] 25) = w1 := ⟨_, rfl⟩
  have hb1 := balloc w (.cells #[.int .i64 n, .slice va vn vc, .slice ea en ec, .slice la ln lc] 25)
  have hcs := boxd w n (.slice va vn vc) (.slice ea en ec) (.slice la ln lc) 25
  obtain ⟨A, hA⟩ : ∃ A, w.heap.size = A := ⟨_, rfl⟩
  rw [hw1] at hb1 hcs
  rw [hA] at hcs
  replace hw1 := hid hw1
  replace hA := hid hA
  replace hb1 := hid hb1
  have hnh := hid hn
  have hm1 := hid (fun (y : World) (hy : Below w1.heap.size w1 y) => hmh.out.below (hb1.out.trans (hy.mono hb1.out.size)))
  clear hm hV hE hL hn hvl hel hll
  go_enter Tryz.func13, Tryz.ntmps13
  go_upto_region 1 with fail
  rw [hw1.out, hA.out]
  obtain ⟨c0, c1, c2, c3⟩ := hcs.out w1 (Below.refl _ _)
  by_cases hfit : Fit m
  rotate_left
  · have hq := hid (fits_ok (n := n) (hm1.out w1 (Below.refl _ _)) hnh.out hsz.out.1 hsz.out.2.1 hsz.out.2.2 false ⟨fun q => (by cases q), fun q => absurd q hfit⟩)
    replace hfit := hid hfit
    go_wp2_with fail
    refine hq.out.mono ?_
    rintro e w2 ⟨b2, rfl⟩
    have hb := hid (hb1.out.trans (b2.mono hb1.out.size))
    clear b2
    go_wp2_with fail
    go_ret2
    exact ⟨hb.out, .inr ⟨fun q => hfit.out q.fit, rfl⟩⟩
  have hq := hid (fits_ok (n := n) (hm1.out w1 (Below.refl _ _)) hnh.out hsz.out.1 hsz.out.2.1 hsz.out.2.2 true ⟨fun _ => hfit, fun _ => rfl⟩)
  replace hfit := hid hfit
  go_wp2_with fail
  refine hq.out.mono ?_
  rintro e w2 ⟨b2, rfl⟩
  replace b2 := hid b2
  clear c0 c1 c2 c3 hq
  obtain ⟨c0, c1, c2, c3⟩ := hcs.out w2 b2.out
  go_upto_region 4 with (at_make; refine wpList_make_full _ rfl (.tmp 20) (.tmp 20) 28 rfl w2.heap.size 55 i1 (.slice none 0 0) 1 Tryz.underlying28 hif hz0 hz1 .i64 .i64 _ _ vn rfl rfl rfl rfl (by rw [hz2]; omega) (by unfold maxLen; omega) (Nat.le_refl _) ?_; intro w3 hown3 hgrow3)
  have b23 := (Below.refl w2.heap.size w2).grown hgrow3 (Nat.le_refl _) (by simp)
  have b3 := hid (b2.out.trans (b23.mono b2.out.size))
  rw [made_nil] at hown3
  have hg3 : w2.heap.size < w3.heap.size := by
    obtain ⟨g, cap, cur, e1, e2, e3, _⟩ := (hown3.2.resolve_left (fun q => by simp at q))
    simp only [Value.slice.injEq, Option.some.injEq, Addr.mk.injEq, and_true] at e1
    obtain ⟨rfl, _⟩ := e1
    exact (Array.getElem?_eq_some_iff.1 e3).1
  replace hown3 := hid hown3
  clear c0 c1 c2 c3 hgrow3 b23
  obtain ⟨c0, c1, c2, c3⟩ := hcs.out w3 b3.out
  have hdq := hid (rdarts17_ok (n := n) (hm1.out w3 b3.out) (by have := hsz.out; omega))
  go_wp2_with fail
  refine hdq.out.mono ?_
  rintro e w4 ⟨u, rfl, hu, b4⟩
  obtain ⟨da, dc, rfl, _, _⟩ := own_any hu
  have hnl := hid hu.nl
  obtain ⟨D, hD⟩ : ∃ D, (dtl m).length = D := ⟨_, rfl⟩
  have hD80 : D ≤ 800 := by
    have := dts_le m m.es.length
    have h2 := hsz.out.2.1
    rw [← hD]
    show (dts m m.es.length).length ≤ 800
    omega
  rw [hD] at hnl ⊢
  have hDh := hid hD
  have b4' := hid (b3.out.trans (b4.mono b3.out.size))
  obtain ⟨g1, hg1⟩ : ∃ g1, w2.heap.size = g1 := ⟨_, rfl⟩
  rw [hg1] at hown3 hg3 ⊢
  have hg1w : w1.heap.size ≤ g1 := by rw [← hg1]; exact b2.out.size
  have hS0 : Hid (RS m vn g1 w4.heap.size g1 w4 0 0 (List.replicate vn (.slice none 0 0)) (.slice none 0 0) w4) := by
    refine ⟨by simp, ownsRow_below hown3.out b4, fun i l u a b => ?_, fun i _ hi => by simp [hi], World.ownsRow_nil _ _ _ _, Ar.Turned.refl _ _, by have := b4.size; omega, rfl⟩
    have hi : i < vn := by have := (List.getElem?_eq_some_iff.1 b).1; simpa using this
    rw [rwP_get hi, if_neg (by omega)] at a
    cases a
    have hu' : u = .slice none 0 0 := by simpa [hi] using b.symm
    subst hu'
    exact ⟨World.ownsRow_nil _ _ _ _, .inl rfl⟩
  obtain ⟨B5, hB5⟩ : ∃ B5, w4.heap.size = B5 := ⟨_, rfl⟩
  rw [hB5] at hS0
  have hup := hid (fun (y : World) (hy : Ar.Turned (fun k => k = g1) w4 y) => b4'.out.trans (hy.below (fun k hk => by rw [hk]; exact hg1w) b4'.out.size))
  have hg1l : g1 < B5 := hS0.out.low
  have hnl' := hid (fun (y : World) (hy : Ar.Turned (fun k => k = g1) w4 y) => (show ∀ (j x : Nat), (dtl m)[j]? = some x → ∃ b o, da = some ⟨b, o, none⟩ ∧ y.cell? ⟨b, o + j, none⟩ = some (.int .i64 (x : Int)) from fun j x hx => by
    obtain ⟨_, _, _, e9, _, _, _, hcell⟩ := hnl.out
    simp only [Value.slice.injEq] at e9
    obtain ⟨rfl, rfl, rfl⟩ := e9
    obtain ⟨b, o, e, c⟩ := hcell j x hx
    refine ⟨b, o, e, hy.cell c (fun q => ?_)⟩
    have hl := (own_lt (k := b) hu (by rw [e]; rfl)).1
    have q' : b = g1 := q
    omega))
  replace hB5 := hid hB5
  clear c0 c1 c2 c3 hu b4 hown3 hdq hD hg1 hnl hg3
  obtain ⟨c0, c1, c2, c3⟩ := hcs.out w4 b4'.out
  go_wp2_with fail
  go_loopw [6, 7, 8, 9, 10, 11, 12] (fun s6 s7 _ _ _ _ _ wr => ∃ v : Nat, v ≤ vn ∧ s7 = .int .i64 (v : Int) ∧ (∃ sa sn sc, s6 = .slice sa sn sc) ∧ Hid (∃ us, RS m vn g1 B5 g1 w4 v v us s6 wr) ∧ Hid (HR m v)) (fun _ s7 _ _ _ _ _ _ => vn - (intOf s7).toNat)
  case atStart => exact ⟨0, by omega, by go_num, ⟨_, _, _, rfl⟩, ⟨_, hS0.out⟩, fun u d l hu => by omega⟩
  case round =>
    obtain ⟨v, hv, rfl, ⟨sa, sn, sc, rfl⟩, hst, hhr⟩ := hrel
    obtain ⟨us, hrs⟩ := hst.out
    clear c0 c1 c2 c3 hS0
    have hbw := hid (hup.out wr hrs.tur)
    obtain ⟨c0, c1, c2, c3⟩ := hcs.out wr hbw.out
    have hrs' := hid hrs
    clear hst hrs
    rcases Nat.lt_or_ge v vn with hlt | hge
    · obtain ⟨p, hp⟩ : ∃ p, m.vs[v]? = some p := ⟨_, List.getElem?_eq_getElem (by rw [hvn.out]; exact hlt)⟩
      obtain ⟨_, _, _, e9, hVr, _⟩ := (hm1.out wr hbw.out).vs
      simp only [Value.slice.injEq] at e9
      obtain ⟨rfl, rfl, rfl⟩ := e9
      obtain ⟨vb, vo, rfl, _, p1⟩ := hVr.cell v p hp
      have hat : Hid ((Ar.atP m.vs v).2 = 1 ↔ p.2 = 1) := by
        show _ ↔ _
        unfold Ar.atP
        simp [hp]
      have j1 : (0 : Int) ≤ (v : Int) := by omega
      have j2 : (v : Int) < (vn : Int) := by omega
      have hlvb := Ar.lv_le m.vs v
      clear hp hVr
      by_cases hp1 : p.2 = 1
      all_goals
        (first
          | (have t1 : (p.2 == 1) = true := by simp [hp1]
             have hat1 := hid (hat.out.2 hp1)
             have hown := (hrs'.out.more (balloc wr (.cells #[.int .i64 (v : Int)] 3))).ve
             have hsn0 : sn = (Ar.lv m.vs v).length := own_sln hown
             have hsn := hid hsn0
             unfold Rw at hown
             rw [← hsn0] at hown
             have hlvb2 : sn ≤ v := by rw [hsn0]; exact hlvb
             clear hsn0 hlvb
             have hB5r : B5 ≤ wr.heap.size := by rw [hrs'.out.sz]; exact hrs'.out.tur.size
             clear hp1
             go_upto_region 11 with (at_builtin; refine wpList_append_lies _ rfl (.tmp 38) (.tmp 40) 55 rfl B5 3 j0 _ 1 8 Tryz.underlying55 jf jz0 jz1 jz2 rfl (by decide) _ sn (ncs (Ar.lv m.vs v)) rfl hown ⟨wr.heap.size, 0, none⟩ 1 1 [.int .i64 (v : Int)] rfl rfl (one_new wr _ _) (by simp [Value.oneCell']) (by decide) (by unfold maxLen; omega) (by omega) (by simp; omega) (wr.heap.size + 1) (by simp) ?_; intro g cap w' ho' hg' hgo hgs)
             have hR := hid ((hrs'.out.more (balloc wr (.cells #[.int .i64 (v : Int)] 3))).push hat1.out ho' (by rw [hsn.out]) hg' (hgo.imp_right (fun q => (hrs'.out.more (balloc wr (.cells #[.int .i64 (v : Int)] 3))).old (by rw [q]; simp))))
             obtain ⟨wa, hwa⟩ : ∃ wa, wa = w' := ⟨_, rfl⟩
             rw [← hwa] at hR ⊢
             clear hown hsn ho' hg' hgo hgs t1 hwa hat1 hB5r hlvb2
             obtain ⟨sa2, hsa2⟩ : ∃ sa2 : Option Addr, some ⟨g, 0, none⟩ = sa2 := ⟨_, rfl⟩
             rw [hsa2] at hR ⊢
             obtain ⟨sn2, hsn2⟩ : ∃ sn2, sn + 1 = sn2 := ⟨_, rfl⟩
             rw [hsn2] at hR ⊢
             obtain ⟨sc2, hsc2⟩ : ∃ sc2, cap = sc2 := ⟨_, rfl⟩
             rw [hsc2] at hR ⊢
             clear hsa2 hsn2 hsc2)
          | (have t1 : (p.2 == 1) = false := by simp [hp1]
             have hR := hid (hrs'.out.pass (fun q => hp1 (hat.out.1 q)))
             clear hp1
             go_upto_region 11 with fail
             obtain ⟨wa, hwa⟩ : ∃ wa, wa = wr := ⟨_, rfl⟩
             rw [← hwa] at hR ⊢
             clear t1 hwa hlvb
             obtain ⟨sa2, hsa2⟩ : ∃ sa2, sa = sa2 := ⟨_, rfl⟩
             rw [hsa2] at hR ⊢
             obtain ⟨sn2, hsn2⟩ : ∃ sn2, sn = sn2 := ⟨_, rfl⟩
             rw [hsn2] at hR ⊢
             obtain ⟨sc2, hsc2⟩ : ∃ sc2, sc = sc2 := ⟨_, rfl⟩
             rw [hsc2] at hR ⊢
             clear hsa2 hsn2 hsc2))
        clear c0 c1 c2 c3 p1 hrs' hbw hat
        have hba := hid (hup.out wa hR.out.tur)
        obtain ⟨wo, hwo⟩ : ∃ wo, wo = wa := ⟨_, rfl⟩
        clear hwo
        go_wp2_with fail
        go_loopw [8, 9, 10] (fun s8 s9 s10 wr => ∃ i : Nat, i ≤ D ∧ s10 = .int .i64 (i : Int) ∧ s8 = .int .i64 ((vdt m v ((dtl m).take i)).length : Int) ∧ s9 = .int .i64 (hd1 (vdt m v ((dtl m).take i))) ∧ Hid (Below wa.heap.size wa wr)) (fun _ _ s10 _ => D - (intOf s10).toNat)
        case atStart => exact ⟨0, by omega, by go_num, by go_num, rfl, Below.refl _ _⟩
        case round =>
          obtain ⟨i, hi, rfl, rfl, rfl, hbr⟩ := hrel
          have hRr := hid (hR.out.more hbr.out)
          have hbw := hid (hup.out wr hRr.out.tur)
          rcases Nat.lt_or_ge i D with hil | hig
          · obtain ⟨d, hd⟩ : ∃ d, (dtl m)[i]? = some d := ⟨_, List.getElem?_eq_getElem (by rw [hDh.out]; exact hil)⟩
            have hlv := mem_dtl.1 (List.mem_of_getElem? hd)
            obtain ⟨db, dof, rfl, cd⟩ := hnl'.out wr hRr.out.tur i d hd
            have hcd := hid (fun (y : World) (hy : Below wr.heap.size wr y) => (hy.cell (World.block_lt_of_cell? _ _ cd)).trans cd)
            have hdk := (hfit.out.told.dart hlv).1
            have hfr := hid (fun (y : World) (hy : Below wr.heap.size wr y) => rfrom_ok (n := n) (vv := .slice (some ⟨vb, vo, none⟩) vn vc) (ev := .slice ea en ec) (hm1.out y (hbw.out.trans (hy.mono hbw.out.size))).l d hdk)
            have hS := hid (fun (y : World) (hy : Below wr.heap.size wr y) => (show y.cell? ⟨A, 0, none⟩ = some (.int .i64 n) ∧ y.cell? ⟨A, 1, none⟩ = some (.slice (some ⟨vb, vo, none⟩) vn vc) ∧ y.cell? ⟨A, 2, none⟩ = some (.slice ea en ec) ∧ y.cell? ⟨A, 3, none⟩ = some (.slice la ln lc) ∧ y.cell? ⟨db, dof + i, none⟩ = some (.int .i64 (d : Int)) by
              obtain ⟨a0, a1, a2, a3⟩ := hcs.out y (hbw.out.trans (hy.mono hbw.out.size))
              exact ⟨a0, a1, a2, a3, hcd.out y hy⟩))
            obtain ⟨F, hF⟩ : ∃ F, m.fr d = F := ⟨_, rfl⟩
            rw [hF] at hfr
            have hvs := vdt_step (m := m) (v := v) hd
            rw [hF] at hvs
            obtain ⟨a0, a1, a2, a3, a4⟩ := hS.out wr (Below.refl _ _)
            have hMi : (vdt m v ((dtl m).take i)).length ≤ i := Nat.le_trans (List.length_filter_le _ _) (by rw [List.length_take]; omega)
            have hH0 : vdt m v ((dtl m).take i) ≠ [] → 0 ≤ hd1 (vdt m v ((dtl m).take i)) := hd1_pos
            obtain ⟨VL, hVL⟩ : ∃ VL, vdt m v ((dtl m).take i) = VL := ⟨_, rfl⟩
            rw [hVL] at hvs hMi hH0 ⊢
            have i1 : (0 : Int) ≤ (i : Int) := by omega
            have i2 : (i : Int) < (D : Int) := by omega
            obtain ⟨M, hM⟩ : ∃ M, VL.length = M := ⟨_, rfl⟩
            obtain ⟨H, hH⟩ : ∃ H, hd1 VL = H := ⟨_, rfl⟩
            rw [hM] at hMi
            rw [hH] at hH0
            rw [hM, hH]
            have hkb : Hid (D ≤ 800 ∧ i < D ∧ M ≤ i) := ⟨hD80, hil, hMi⟩
            by_cases hFv : F = v
            · have t5 : ((F : Int) == (v : Int)) = true := by simp [hFv]
              rw [if_pos hFv] at hvs
              have hl1 : Hid ((vdt m v ((dtl m).take (i + 1))).length = M + 1) := by show _ = _; rw [hvs, List.length_append, hM]; rfl
              by_cases hnil : VL = []
              · have hh1 : Hid (hd1 (vdt m v ((dtl m).take (i + 1))) = (d : Int)) := by show _ = _; rw [hvs, hnil]; rfl
                have hHm : H = -1 := by rw [← hH, hnil]; rfl
                have t6 : decide (H < 0) = true := decide_eq_true (by omega)
                clear hVL hvs hnil hM hH hF hFv hd hlv cd hdk hH0 hHm
                go_upto_region 15 with fail
                go_region_held3 (fun w' => w'.cell? ⟨A, 0, none⟩ = some (.int .i64 n) ∧ w'.cell? ⟨A, 1, none⟩ = some (.slice (some ⟨vb, vo, none⟩) vn vc) ∧ w'.cell? ⟨A, 2, none⟩ = some (.slice ea en ec) ∧ w'.cell? ⟨A, 3, none⟩ = some (.slice la ln lc) ∧ w'.cell? ⟨db, dof + i, none⟩ = some (.int .i64 (d : Int))) (first | with_reducible exact hS.out _ (Below.refl _ _).drew | with_reducible exact hS.out _ bS | go_keep) ((go_at_call 30; refine (hfr.out _ (Below.refl _ _).drew).mono ?_; rintro e1 y1 ⟨rfl, bs⟩; have bS : Below wr.heap.size wr y1 := (Below.refl wr.heap.size wr).drew.trans bs))
                all_goals
                  have cd1 := hcd.out y1 bS
                  have hb1' := hid (hbr.out.trans (bS.mono hbr.out.size))
                  clear a0 a1 a2 a3 a4
                  go_wp2_with fail
                  go_roundw
                  case rel => first | exact ⟨i + 1, by omega, by go_num, by rw [hl1.out]; go_num, by rw [hh1.out], hb1'⟩ | exact ⟨i + 1, by omega, by go_num, by rw [hl1.out]; go_num, by rw [hh1.out], hid hb1'.out.drew⟩
                  case measure => simp [intOf]; omega
              · have hh1 : Hid (hd1 (vdt m v ((dtl m).take (i + 1))) = H) := by show _ = _; rw [hvs, hd1_app hnil]; exact hH
                have hHm := hH0 hnil
                have t6 : decide (H < 0) = false := decide_eq_false (by omega)
                clear hVL hvs hnil hM hH hF hFv hd hlv cd hdk hH0 hHm
                go_upto_region 15 with fail
                go_region_held3 (fun w' => w'.cell? ⟨A, 0, none⟩ = some (.int .i64 n) ∧ w'.cell? ⟨A, 1, none⟩ = some (.slice (some ⟨vb, vo, none⟩) vn vc) ∧ w'.cell? ⟨A, 2, none⟩ = some (.slice ea en ec) ∧ w'.cell? ⟨A, 3, none⟩ = some (.slice la ln lc) ∧ w'.cell? ⟨db, dof + i, none⟩ = some (.int .i64 (d : Int))) (first | with_reducible exact hS.out _ (Below.refl _ _).drew | with_reducible exact hS.out _ bS | go_keep) ((go_at_call 30; refine (hfr.out _ (Below.refl _ _).drew).mono ?_; rintro e1 y1 ⟨rfl, bs⟩; have bS : Below wr.heap.size wr y1 := (Below.refl wr.heap.size wr).drew.trans bs))
                all_goals
                  have hb1' := hid (hbr.out.trans (bS.mono hbr.out.size))
                  clear a0 a1 a2 a3 a4
                  go_wp2_with fail
                  go_roundw
                  case rel => first | exact ⟨i + 1, by omega, by go_num, by rw [hl1.out]; go_num, by rw [hh1.out], hb1'⟩ | exact ⟨i + 1, by omega, by go_num, by rw [hl1.out]; go_num, by rw [hh1.out], hid hb1'.out.drew⟩
                  case measure => simp [intOf]; omega
            · have t5 : ((F : Int) == (v : Int)) = false := by simp; omega
              rw [if_neg hFv, List.append_nil] at hvs
              have hl1 : Hid ((vdt m v ((dtl m).take (i + 1))).length = M) := by show _ = _; rw [hvs]; exact hM
              have hh1 : Hid (hd1 (vdt m v ((dtl m).take (i + 1))) = H) := by show _ = _; rw [hvs]; exact hH
              clear hVL hvs hM hH hF hFv hd hlv cd hdk hH0
              go_upto_region 15 with fail
              go_region_held3 (fun w' => w'.cell? ⟨A, 0, none⟩ = some (.int .i64 n) ∧ w'.cell? ⟨A, 1, none⟩ = some (.slice (some ⟨vb, vo, none⟩) vn vc) ∧ w'.cell? ⟨A, 2, none⟩ = some (.slice ea en ec) ∧ w'.cell? ⟨A, 3, none⟩ = some (.slice la ln lc) ∧ w'.cell? ⟨db, dof + i, none⟩ = some (.int .i64 (d : Int))) (first | with_reducible exact hS.out _ (Below.refl _ _).drew | with_reducible exact hS.out _ bS | go_keep) ((go_at_call 30; refine (hfr.out _ (Below.refl _ _).drew).mono ?_; rintro e1 y1 ⟨rfl, bs⟩; have bS : Below wr.heap.size wr y1 := (Below.refl wr.heap.size wr).drew.trans bs))
              all_goals
                have hb1' := hid (hbr.out.trans (bS.mono hbr.out.size))
                clear a0 a1 a2 a3 a4
                go_wp2_with fail
                go_roundw
                case rel => first | exact ⟨i + 1, by omega, by go_num, by rw [hl1.out], by rw [hh1.out], hb1'⟩ | exact ⟨i + 1, by omega, by go_num, by rw [hl1.out], by rw [hh1.out], hid hb1'.out.drew⟩
                case measure => simp [intOf]; omega
          · obtain rfl : i = D := by omega
            rw [show (dtl m).take i = dtl m from List.take_of_length_le (by rw [hDh.out]; exact Nat.le_refl _)]
            have hll0 : (vdt m v (dtl m)).length ≤ 800 := Nat.le_trans (List.length_filter_le _ _) (by rw [hDh.out]; exact hD80)
            obtain ⟨L, hL⟩ : ∃ L, vdt m v (dtl m) = L := ⟨_, rfl⟩
            rw [hL] at hll0 ⊢
            cases L with
            | nil =>
              rw [show ((([] : List Nat).length : Nat) : Int) = 0 from rfl, show hd1 [] = -1 from rfl]
              have hr17 := vdt_nil hfit.out.len hL
              have hRn : Hid (∃ us, RS m vn g1 B5 g1 w4 (v + 1) (v + 1) us (.slice sa2 sn2 sc2) wr) := by
                have hnl2 := hRr.out.nil v (Nat.le_refl _) hlt
                refine ⟨_, hRr.out.next hlt (rv := .slice none 0 0) (Ar.Turned.refl _ _) (by rw [set_same hnl2]; exact hRr.out.tab) ?_⟩
                rw [hr17]
                exact World.ownsRow_nil _ _ _ _
              have hhr2 : Hid (HR m (v + 1)) := fun u d l hu hd => by
                rcases Nat.lt_or_ge u v with q | q
                · exact hhr.out u d l q hd
                · obtain rfl : u = v := by omega
                  rw [hL] at hd
                  cases hd
              clear hL hr17 hll0
              go_wp2_with fail
              go_loopw [11, 12] (fun _ s12 wx => s12 = .int .i64 0 ∧ Hid (wx = wr)) (fun _ _ _ => 0)
              case atStart => exact ⟨by go_num, rfl⟩
              case round =>
                obtain ⟨rfl, hwx⟩ := hrel
                rw [hwx.out]
                clear hwx
                go_wp2_with fail
                go_roundw
                case rel => exact ⟨v + 1, by omega, by go_num, ⟨_, _, _, rfl⟩, hRn, hhr2⟩
                case measure => simp [intOf]; omega
            | cons d l =>
              obtain ⟨hd1v, hd2v⟩ := vd_first hL
              have hdk := (hfit.out.told.dart hd1v).1
              obtain ⟨Q, hQ⟩ : ∃ Q, l.length + 1 = Q := ⟨_, rfl⟩
              rw [show (((d :: l).length : Nat) : Int) = (Q : Int) by rw [List.length_cons, hQ], show hd1 (d :: l) = (d : Int) from rfl]
              have hQ80 : Q ≤ 800 := by rw [← hQ]; simpa using hll0
              obtain ⟨wv, hwv⟩ : ∃ wv, wv = wr := ⟨wr, rfl⟩
              subst hwv
              have hnl2 := hRr.out.nil v (Nat.le_refl _) hlt
              have hQh := hid hQ
              have hLh := hid hL
              have hdkh := hid hdk
              have hlvh := hid hd1v
              have hst3 : Hid (Ar.Turned (fun k => k = g1) wv wv ∧ wv.ownsRow g1 55 1 (.slice (some ⟨g1, 0, none⟩) vn vn) vn (us.set v (.slice none 0 0)) ∧ Rw wv.heap.size wv (.slice none 0 0) (Pq.fl 0 (fun i => Pq.it m.f i d))) := ⟨Ar.Turned.refl _ _, by rw [set_same hnl2]; exact hRr.out.tab, World.ownsRow_nil _ _ _ _⟩
              have hbu := hid (fun (y : World) (hy : Ar.Turned (fun k => k = g1) wv y) => hup.out y (hRr.out.tur.trans hy))
              have hvs5 : B5 ≤ wv.heap.size := by rw [hRr.out.sz]; exact hRr.out.tur.size
              clear hL hll0 hQ hd1v hd2v hdk hbw hnl2
              go_wp2_with fail
              go_loopw [11, 12] (fun s11 s12 wr => ∃ j : Nat, j ≤ Q ∧ s12 = .int .i64 (j : Int) ∧ s11 = .int .i64 (Pq.it m.f j d : Int) ∧ Hid (∃ ra rc, Ar.Turned (fun k => k = g1) wv wr ∧ wr.ownsRow g1 55 1 (.slice (some ⟨g1, 0, none⟩) vn vn) vn (us.set v (.slice ra j rc)) ∧ Rw wv.heap.size wr (.slice ra j rc) (Pq.fl j (fun i => Pq.it m.f i d))) ∧ Hid (∀ i, 0 < i → i < j → Pq.it m.f i d ≠ d)) (fun _ s12 _ => Q - (intOf s12).toNat)
              case atStart => exact ⟨0, by omega, by go_num, rfl, ⟨_, _, hst3.out⟩, fun i _ hi => by omega⟩
              case round =>
                obtain ⟨j, hj, rfl, rfl, hst4, hne⟩ := hrel
                obtain ⟨ra, rc, htu, htab, hrw⟩ := hst4.out
                have hbw := hid (hbu.out wr htu)
                obtain ⟨x, hx⟩ : ∃ x, Pq.it m.f j d = x := ⟨_, rfl⟩
                rw [hx]
                have hxh := hid hx
                rcases Nat.lt_or_ge j Q with hjl | hjg
                · have hlx : Lv m.es (x / 2) := by rw [← hx]; exact (hfit.out.told.it_live j).2 hlvh.out
                  have hxk := (hfit.out.told.dart hlx).1
                  clear hst4 hx
                  by_cases hb : 0 < j ∧ x = d
                  · have u1 : decide ((0 : Int) < (j : Int)) = true := decide_eq_true (by omega)
                    have u2 : decide ((j : Int) > 0) = true := decide_eq_true (by omega)
                    have u3 : decide (0 < j) = true := decide_eq_true hb.1
                    have u4 : ((x : Int) == (d : Int)) = true := by simp [hb.2]
                    have hno : Hid (¬ May m) := fun q => (vd_row hfit.out hLh.out q.2.2.2.1).2 j hb.1 (by rw [hQh.out]; exact hjl) (hxh.out.trans hb.2)
                    have hbe := hid (hb1.out.trans (hbw.out.mono hb1.out.size))
                    clear hb
                    go_wp2_with fail
                    go_ret2
                    exact ⟨hbe.out, .inr ⟨hno.out, rfl⟩⟩
                  · have htests : (decide ((0 : Int) < (j : Int)) = false ∧ decide ((j : Int) > 0) = false ∧ decide (0 < j) = false) ∨ ((decide ((0 : Int) < (j : Int)) = true ∧ decide ((j : Int) > 0) = true ∧ decide (0 < j) = true) ∧ ((x : Int) == (d : Int)) = false) := by
                      by_cases h0 : j = 0
                      · exact .inl ⟨decide_eq_false (by omega), decide_eq_false (by omega), decide_eq_false (by omega)⟩
                      · exact .inr ⟨⟨decide_eq_true (by omega), decide_eq_true (by omega), decide_eq_true (by omega)⟩, by simp; intro e; exact hb ⟨by omega, by omega⟩⟩
                    have hne2 : Hid (∀ i, 0 < i → i < j + 1 → Pq.it m.f i d ≠ d) := fun i h0 h1 e => by
                      rcases Nat.lt_or_ge i j with q | q
                      · exact hne.out i h0 q e
                      · obtain rfl : i = j := by omega
                        exact hb ⟨h0, hxh.out.symm.trans e⟩
                    have hit : Hid (m.nd x = Pq.it m.f (j + 1) d) := by
                      show _ = m.f (Pq.it m.f j d)
                      rw [hxh.out, Mo.f_live hlx]
                    have efl : Hid (ncs (Pq.fl (j + 1) (fun i => Pq.it m.f i d)) = ncs (Pq.fl j (fun i => Pq.it m.f i d)) ++ [.int .i64 (x : Int)]) := by
                      show _ = _
                      rw [Pq.fl_succ, ncs_append, hxh.out]; rfl
                    have y0 : wr.cell? ⟨g1, v, none⟩ = some (.slice ra j rc) := by
                      rw [htab.cellAt v (by omega), List.getElem?_set, if_pos rfl, if_pos (by rw [hRr.out.ul]; exact hlt)]
                    have hsr := htu.size
                    unfold Rw at hrw
                    rw [Pq.fl_length] at hrw
                    have r1 : (0 : Int) ≤ (v : Int) := by omega
                    have r2 : (v : Int) < (vn : Int) := by omega
                    have htu' := hid htu
                    have htab' := hid htab
                    have hlxh := hid hlx
                    have hxkh := hid hxk
                    clear hb htu htab hlx hxk
                    rcases htests with ⟨u1, u2, u3⟩ | ⟨⟨u1, u2, u3⟩, u4⟩
                    all_goals
                      go_upto_region 25 with fail
                      go_wp2_with (at_builtin; refine wpList_append_own _ rfl (.tmp 82) (.tmp 84) 55 rfl wv.heap.size 3 j0 _ 1 8 Tryz.underlying55 jf jz0 jz1 jz2 rfl (by decide) _ j (ncs (Pq.fl j (fun i => Pq.it m.f i d))) rfl (hrw.alloc _) ⟨wr.heap.size, 0, none⟩ 1 1 [.int .i64 (x : Int)] rfl rfl (one_new wr _ _) (by simp [Value.oneCell']) (by unfold maxLen; omega) (by omega) (by simp; omega) ?_; intro v' w' ho' hg' _; refine Hid.out ?_)
                      obtain ⟨ra', rc', rfl, _, _⟩ := own_any ho'
                      have htab2 := World.ownsRow.kept (htab'.out.alloc (.cells #[.int .i64 (x : Int)] 3)) hg' (.inr (fun e => by
                        have h1 : wv.heap.size ≤ g1 := (own_lt hrw (k := g1) e.symm).1
                        omega))
                      have y1 : w'.cell? ⟨g1, v, none⟩ = some (.slice ra j rc) := by
                        rw [htab2.cellAt v (by omega), List.getElem?_set, if_pos rfl, if_pos (by rw [hRr.out.ul]; exact hlt)]
                      have fz := htab2.frozenAt v
                      obtain ⟨s1, s2⟩ := htab2.stored v (.slice ra' (j + 1) rc')
                      rw [List.set_set] at s1
                      have hTn := (((htu'.out.alloc (.cells #[.int .i64 (x : Int)] 3)).then (Ar.Turned.ofGrown (S := fun k => wv.heap.size ≤ k) hg' (fun k hk => (own_lt hrw hk).1)) (fun i hi hS => by omega)).setCell (p := ⟨g1, v, none⟩) rfl (.slice ra' (j + 1) rc'))
                      have hrw2 := row_kept ho' ((Ar.Turned.refl (fun i => i = g1) w').setCell (p := ⟨g1, v, none⟩) rfl (.slice ra' (j + 1) rc')) (own_off2 ho' (by omega))
                      rw [← efl.out] at hrw2
                      have hnew := hid (And.intro hTn (And.intro s1 hrw2))
                      clear s1 s2 hTn hrw2 htab2 ho' hg' hrw y0
                      refine hid ?_
                      go_upto_region 26 with fail
                      obtain ⟨wz, hwz⟩ : ∃ wz, w'.setCell ⟨g1, v, none⟩ (.slice ra' (j + 1) rc') = wz := ⟨_, rfl⟩
                      rw [hwz] at hnew ⊢
                      clear hwz y1 fz
                      have hbz := hid (hbu.out wz hnew.out.1)
                      obtain ⟨c0, c1, c2, c3⟩ := hcs.out wz hbz.out
                      have hnx := hid (rnext17_ok (n := n) (vv := .slice (some ⟨vb, vo, none⟩) vn vc) (ev := .slice ea en ec) (hm1.out wz hbz.out).l x hxkh.out)
                      go_wp2_with fail
                      refine hnx.out.mono ?_
                      rintro e w9 ⟨rfl, b9⟩
                      rw [hit.out]
                      have hst5 : Hid (∃ ra rc, Ar.Turned (fun k => k = g1) wv w9 ∧ w9.ownsRow g1 55 1 (.slice (some ⟨g1, 0, none⟩) vn vn) vn (us.set v (.slice ra (j + 1) rc)) ∧ Rw wv.heap.size w9 (.slice ra (j + 1) rc) (Pq.fl (j + 1) (fun i => Pq.it m.f i d))) :=
                        ⟨ra', rc', hnew.out.1.trans (Ar.Turned.ofBelow b9 _), ownsRow_below hnew.out.2.1 b9, by
                          unfold Rw
                          rw [Pq.fl_length]
                          exact ownsRow_below hnew.out.2.2 b9⟩
                      clear b9 hnx hnew c0 c1 c2 c3
                      go_wp2_with fail
                      go_roundw
                      case rel => exact ⟨j + 1, by omega, by go_num, rfl, hst5, hne2⟩
                      case measure => simp [intOf]; omega
                · obtain rfl : j = Q := by omega
                  have hr : ∀ i, 0 < i → i < l.length + 1 → Pq.it m.f i d ≠ d := by rw [hQh.out]; exact hne.out
                  have e17 := vd_row2 hfit.out hLh.out hr
                  rw [hQh.out] at e17
                  have hRn : Hid (∃ us, RS m vn g1 B5 g1 w4 (v + 1) (v + 1) us (.slice sa2 sn2 sc2) wr) := ⟨_, hRr.out.next hlt htu htab (by rw [e17]; exact hrw)⟩
                  have hhr2 : Hid (HR m (v + 1)) := fun u d l hu hd => by
                    rcases Nat.lt_or_ge u v with q | q
                    · exact hhr.out u d l q hd
                    · obtain rfl : u = v := by omega
                      rw [hLh.out] at hd
                      cases hd
                      exact hr
                  clear hst4 htu htab hrw hx e17 hr
                  go_wp2_with fail
                  go_roundw
                  case rel => exact ⟨v + 1, by omega, by go_num, ⟨_, _, _, rfl⟩, hRn, hhr2⟩
                  case measure => simp [intOf]; omega
    · obtain rfl : v = vn := by omega
      have ht := hfit.out.told
      have hcy : Cy m := hfit.out.cy (fun u d l hu hd => hhr.out u d l (by rw [← hvn.out]; exact hu) hd)
      have hRg := hid (hrs'.out.rl hvn.out (by omega))
      have hle := hfit.out.len
      obtain ⟨V, hV⟩ : ∃ V, max v 1 = V := ⟨_, rfl⟩
      obtain ⟨E, hE⟩ : ∃ E, max ln 1 = E := ⟨_, rfl⟩
      have hmV : mV m = V := by unfold mV; rw [hvn.out]; exact hV
      have hmE : mE m = E := by unfold mE; rw [← hle, hln.out]; exact hE
      have hl40 : ln ≤ 400 := by rw [← hln.out]; exact hsz.out.2.2
      have hV40 : V ≤ 400 := by omega
      have hE40 : E ≤ 400 := by omega
      have hV1 : 1 ≤ V := by omega
      have m3 : Hid (max (v : Int) 1 = (V : Int) ∧ max (ln : Int) 1 = (E : Int)) := ⟨by omega, by omega⟩
      have hvV : m.vs.length ≤ V := by rw [hvn.out]; omega
      have heE : m.es.length ≤ E := by rw [← hle, hln.out]; omega
      have hgood := hid (good17 ht hcy hvV heE)
      have hvl := rm_vl ht hcy hvV
      have htn := rm_tn ht hcy (V := V) heE
      have htw := rm_tw ht hcy (E := E) hvV
      have hflat := hvl.flat htn htw
      have hlen : ∀ u, u < V → (Rm m u).length ≤ 1000 := fun u hu => by
        have := htn.len hu
        omega
      have hlives : Hid (RN wr (.slice sa sn sc) (Ar.lives m.vs)) := by
        have := hrs'.out.ve.nl.rn
        unfold Ar.lives
        rw [hvn.out]
        exact this
      have hll : (Ar.lives m.vs).length ≤ 1000 := by
        have := Ar.lv_le m.vs m.vs.length
        have h40 := hsz.out.1
        show (Ar.lv m.vs m.vs.length).length ≤ 1000
        omega
      have hld := hid (fun a b ha hb => rload_at (V := V) (E := E) a b ha hb hV1 (by omega) (by omega) hRg.out.rv)
      have hfl := hid (fun (y : World) (tv : Value) (hy : Below wr.heap.size wr y) (hr : RT y tv E V (Rm m)) (s : Bool) (hs : s = true ↔ Xi (mV m) (mE m) (Rm m) = 0) => rflat_ok tv (.slice sa sn sc) E V (Rm m) (Ar.lives m.vs) s y hr htn htw (hlives.out.below hy) hvl.low hll (hs.trans (by rw [hmV, hmE]; exact hflat.symm)) (by omega) hV1 (by omega) hlen)
      have hmay : Hid (Xi (mV m) (mE m) (Rm m) = 0 → May m) := fun q => ⟨hfit.out.v, hfit.out.e, ht, hcy, q⟩
      have hbe := hid (fun (y : World) (hy : Below wr.heap.size wr y) => hb1.out.trans ((hbw.out.trans (hy.mono hbw.out.size)).mono hb1.out.size))
      clear ht hcy hle hV hE hmV hmE hvV heE hvl htn htw hflat hlen hll hV1
      go_wp2_with fail
      all_goals
        refine Calls.mono (hld.out _ _ ?_ ?_) ?_
        · have := m3.out; omega
        · have := m3.out; omega
        rintro e w6 ⟨b6, ⟨_, xa, xc, rfl, hrt⟩ | ⟨hn, _⟩⟩
        · have n7 := new_of w6 #[.int .i64 (E : Int), .slice xa V xc] 76
          have b67 := balloc w6 (.cells #[.int .i64 (E : Int), .slice xa V xc] 76)
          have b7 := hid (b6.trans (b67.mono b6.size))
          rw [rr_rm] at hrt
          go_upto_region 28 with fail
          obtain ⟨w7, hw7⟩ : ∃ w7, w6.alloc (.cells #[.int .i64 (E : Int), .slice xa V xc] 76) = w7 := ⟨_, rfl⟩
          rw [hw7] at n7 b67 b7 ⊢
          have hrt7 := hid (hrt.below b67)
          have k0 := cell_of n7 (j := 0) rfl
          have k1 := cell_of n7 (j := 1) rfl
          clear hw7 n7 b67 b6 hrt hld
          by_cases hxi : Xi (mV m) (mE m) (Rm m) = 0
          · have hq := hid (hfl.out w7 _ b7.out hrt7.out true ⟨fun _ => hxi, fun _ => rfl⟩)
            have hmy := hid (hmay.out hxi)
            clear hxi
            go_wp2_with fail
            refine hq.out.mono ?_
            rintro e w8 ⟨rfl, b8⟩
            have b8' := hid (b7.out.trans (b8.mono b7.out.size))
            have hrl := hid (hRg.out.rl.below b8'.out)
            clear b8
            go_wp2_with fail
            go_ret2
            exact ⟨hbe.out _ b8'.out, .inl ⟨hmy.out, _, _, _, rfl, hrl.out⟩⟩
          · have hq := hid (hfl.out w7 _ b7.out hrt7.out false ⟨fun q => (by cases q), fun q => absurd q hxi⟩)
            have hno : Hid (¬ May m) := fun q => hxi q.2.2.2.2
            clear hxi
            go_wp2_with fail
            refine hq.out.mono ?_
            rintro e w8 ⟨rfl, b8⟩
            have b8' := hid (b7.out.trans (b8.mono b7.out.size))
            clear b8
            go_wp2_with fail
            go_ret2
            exact ⟨hbe.out _ b8'.out, .inr ⟨hno.out, rfl⟩⟩
        · exact absurd hgood.out hn

end Go.Proofs.YtboafgimjadboaaGreatDoor

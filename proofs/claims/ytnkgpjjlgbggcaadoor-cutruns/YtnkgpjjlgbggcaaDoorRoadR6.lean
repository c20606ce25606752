/- The reference's Road. -/
import Derived.Test.YtnkgpjjlgbggcaaDoorBfw6
import Derived.Test.YtnkgpjjlgbggcaaDoorRoad6
namespace Go.Proofs.YtnkgpjjlgbggcaaDoor
open Go.RowKit
set_option linter.unusedVariables false

/-- Two that a link names, either way. -/
def adjL (ls : List (Nat × Nat)) (x y : Nat) : Prop := ∃ p ∈ ls, (x = p.1 + 1 ∧ y = p.2 + 1) ∨ (x = p.2 + 1 ∧ y = p.1 + 1)

/-- The places of al ahead of i are done with. -/
def DoneI (adj : Nat → Nat → Prop) (al : List Nat) (i : Nat) : Prop := ∀ (p x : Nat), p < i → al[p]? = some x → ∀ y, adj (x + 1) (y + 1) → y ∈ al

/-- The links ahead of k are done with, for x. -/
def DoneK (ls : List (Nat × Nat)) (al : List Nat) (x k : Nat) : Prop := ∀ (q : Nat) (e : Nat × Nat), q < k → ls[q]? = some e → (e.1 = x → e.2 ∈ al) ∧ (e.2 = x → e.1 ∈ al)

theorem DoneI.more {adj : Nat → Nat → Prop} {al m : List Nat} {i : Nat} (h : DoneI adj al i) (hi : i ≤ al.length) : DoneI adj (al ++ m) i := fun p x hp hx y e => by
  rw [List.getElem?_append_left (by omega)] at hx
  exact List.mem_append_left _ (h p x hp hx y e)

theorem DoneK.more {ls : List (Nat × Nat)} {al m : List Nat} {x k : Nat} (h : DoneK ls al x k) : DoneK ls (al ++ m) x k := fun q e hq he => ⟨fun g => List.mem_append_left _ ((h q e hq he).1 g), fun g => List.mem_append_left _ ((h q e hq he).2 g)⟩

theorem DoneK.next {ls : List (Nat × Nat)} {al : List Nat} {x k : Nat} (h : DoneK ls al x k) {p r : Nat} (he : ls[k]? = some (p, r)) (h1 : p = x → r ∈ al) (h2 : r = x → p ∈ al) : DoneK ls al x (k + 1) := fun q e hq hqe => by
  rcases Nat.lt_or_ge q k with g | g
  · exact h q e g hqe
  · obtain rfl : q = k := by omega
    rw [he] at hqe
    cases hqe
    exact ⟨h1, h2⟩

theorem DoneK.all {ls : List (Nat × Nat)} {al : List Nat} {x i : Nat} (h : DoneK ls al x ls.length) (hI : DoneI (adjL ls) al i) (hx : al[i]? = some x) : DoneI (adjL ls) al (i + 1) := fun p z hp hz y e => by
  rcases Nat.lt_or_ge p i with g | g
  · exact hI p z g hz y e
  · obtain rfl : p = i := by omega
    rw [hx] at hz
    cases hz
    obtain ⟨q, hq, hc⟩ := e
    obtain ⟨j, hj⟩ := List.mem_iff_getElem?.1 hq
    have := h j q (List.getElem?_eq_some_iff.1 hj).1 hj
    rcases hc with ⟨c1, c2⟩ | ⟨c1, c2⟩
    · have := this.1 (by omega)
      rwa [show q.2 = y by omega] at this
    · have := this.2 (by omega)
      rwa [show q.1 = y by omega] at this

/-- A slice's length. -/
def lenOf : Value → Nat
  | .slice _ n _ => n
  | _ => 0

theorem Lk.below {lo : Nat} {w w' : World} {v : Value} {ls : List (Nat × Nat)} (h : Lk lo w v ls) (hb : Below w.heap.size w w') : Lk lo w' v ls := by
  have h' : w.ownsRow lo 42 2 v ls.length (lcs ls) := h
  refine ⟨h'.1, ?_⟩
  rcases h'.2 with hn | ⟨g, cap, cur, e, hb', hgg, rest⟩
  · exact Or.inl hn
  · exact Or.inr ⟨g, cap, cur, e, hb', (hb.block g (Array.getElem?_eq_some_iff.1 hgg).1).trans hgg, rest⟩

theorem fcs_step (K i : Nat) : (fcs K (fun x => if x < i then -1 else 0)).set i (.int .i64 (-1)) = fcs K (fun x => if x < i + 1 then -1 else 0) := by
  rw [fcs_set]
  congr 1
  funext x
  by_cases e : x = i
  · subst e; simp
  · by_cases h : x < i
    · simp [e, h, show x < i + 1 by omega]
    · simp [e, h, show ¬ x < i + 1 by omega]

/-- What Road answers. -/
def RoadIs (ls : List (Nat × Nat)) (a b lo : Nat) (w : World) (v : Value) : Prop :=
  (v = .slice none 0 0 ∧ ∀ l, ¬ Wk (adjL ls) (a + 1) (b + 1) l) ∨ ∃ l : List Nat, w.ownsRow lo 3 1 v l.length (l.map icn) ∧ Rd (adjL ls) (a + 1) (b + 1) (l.map (· + 1))

theorem fcs_congr {K : Nat} {F G : Nat → Int} (h : ∀ x, x < K → F x = G x) : fcs K F = fcs K G := by
  unfold fcs
  apply List.map_congr_left
  intro x hx
  rw [h x (List.mem_range.1 hx)]

/-- Where the search stands. -/
structure BS (lo fb K a : Nat) (v : Value) (ls : List (Nat × Nat)) (F : Nat → Int) (av : Value) (al : List Nat) (w wr : World) : Prop where
  bw : BW fb fb K F av al w wr
  bf : BF K (adjL ls) a F al
  lk : Lk lo wr v ls

theorem row_below {w w' : World} {base n size : Nat} {e : TypeId} {v : Value} {xs : List Value} (h : w.ownsRow base e size v n xs) (hb : Below w.heap.size w w') : w'.ownsRow base e size v n xs := by
  refine ⟨h.1, ?_⟩
  rcases h.2 with hn | ⟨g, cap, cur, e, hb', hgg, rest⟩
  · exact Or.inl hn
  · exact Or.inr ⟨g, cap, cur, e, hb', (hb.block g (Array.getElem?_eq_some_iff.1 hgg).1).trans hgg, rest⟩

theorem one_new (W : World) (n r : Nat) (hn : W.heap.size = n) : ∀ j u, [icn r][j]? = some u → (W.alloc (.cells #[.int .i64 (r : Int)] 3)).cell? ((⟨n, 0, none⟩ : Addr).add j) = some u := by
  intro j u hu
  subst hn
  rw [add_from, Nat.zero_add]
  unfold World.cell?
  rw [heap_alloc_new]
  cases j with
  | zero => simpa [icn] using hu
  | succ j => simp at hu

theorem icn_one (l : List Nat) : ∀ u ∈ l.map icn, u.oneCell' = true := by
  intro u hu
  obtain ⟨x, _, rfl⟩ := List.mem_map.1 hu
  rfl

theorem ints_at {w : World} {base : Nat} {u : Value} {l : List Nat} (h : w.ownsRow base 3 1 u l.length (l.map icn)) {j y : Nat} (hj : l[j]? = some y) : ∃ g cap, u = .slice (some ⟨g, 0, none⟩) l.length cap ∧ w.cell? ⟨g, j, none⟩ = some (.int .i64 (y : Int)) := by
  have hjl := (List.getElem?_eq_some_iff.1 hj).1
  obtain ⟨g, cap, hv⟩ : ∃ g cap, u = .slice (some ⟨g, 0, none⟩) l.length cap := by
    rcases h.2 with ⟨_, e⟩ | ⟨g, cap, cur, e, _⟩
    · omega
    · exact ⟨g, cap, e⟩
  subst hv
  exact ⟨g, cap, rfl, (h.cellAt j (by omega)).trans (by simp [hj, icn])⟩

section
variable {lo fb K a : Nat} {v : Value} {ls : List (Nat × Nat)} {F : Nat → Int} {av : Value} {al : List Nat} {w wr w' : World}

theorem BS.more (h : BS lo fb K a v ls F av al w wr) (hb : Below wr.heap.size wr w') : BS lo fb K a v ls F av al w w' :=
  ⟨⟨row_below h.bw.fr hb, row_below h.bw.al hb, h.bw.below.trans (hb.mono (by have := h.bw.below.size; have := h.bw.lo0; omega)), h.bw.lo, h.bw.lo0⟩, h.bf, h.lk.below hb⟩

/-- One more is met. -/
theorem BS.push (h : BS lo fb K a v ls F av al w wr) (hL : Lk lo w v ls) (hfb : w.heap.size = fb) {i x y : Nat} (hx : al[i]? = some x) (hy : y < K) (hF : F y < 0) (e : adjL ls (x + 1) (y + 1)) {av' : Value} {o : Obj}
    (ho : w'.ownsRow (fb + 1) 3 1 av' (al.length + 1) (al.map icn ++ [icn y])) (hg : ((wr.setCell ⟨fb, y, none⟩ (.int .i64 (x : Int))).alloc o).grownBy w' av.ownBlock) : BS lo fb K a v ls (fun z => if z = y then (x : Int) else F z) av' (al ++ [y]) w w' := by
  have hb := (h.bw.setF y (x : Int)).push ho hg
  exact ⟨hb, h.bf.push hx hy hF e, hL.below (hfb ▸ hb.below)⟩
end

set_option maxRecDepth 100000 in
set_option maxHeartbeats 8000000 in
theorem rroad6_ok (lo : Nat) (v : Value) (ls : List (Nat × Nat)) (K a b : Nat) (w : World) (h : Lk lo w v ls) (hls : ∀ p ∈ ls, p.1 < K ∧ p.2 < K ∧ p.1 ≠ p.2) (ha : a < K) (hb : b < K) (hK : K ≤ 1000) (hl : ls.length ≤ 1000) :
    Calls Tryd.prog 12 #[.int .i64 (K : Int), v, .int .i64 (a : Int), .int .i64 (b : Int)] w fun e w' => ∃ v', e = .returned v' ∧ Below w.heap.size w w' ∧ RoadIs ls a b w.heap.size w' v' := by
  obtain ⟨i0, hif, hz0, hz1, hz2⟩ := info_parts infoInt
  obtain ⟨lad, lcap, hv⟩ := h.slice
  subst hv
  have hmk := make_ints K (by omega) w
  have hh := hid h
  replace hls := hid hls
  have hrow0 : (w.alloc (.cells (Array.replicate K (.int .i64 0)) 3)).ownsRow w.heap.size 3 1 (.slice (some ⟨w.heap.size, 0, none⟩) K K) K (fcs K (fun x => if x < 0 then -1 else 0)) := by
    have := World.ownsRow_lit (base := w.heap.size) (e := 3) (size := 1) w (Array.replicate K (.int .i64 0)) K (Nat.le_refl _) (by unfold maxLen; omega) (by simp)
    have e : (Array.replicate K (Value.int .i64 0)).toList = fcs K (fun x => if x < 0 then -1 else 0) := by
      apply List.ext_getElem?
      intro j
      by_cases hj : j < K
      · rw [fcs_get hj]; simp [hj]
      · rw [List.getElem?_eq_none (by simp; omega), List.getElem?_eq_none (by rw [fcs_length]; omega)]
    rw [e] at this
    exact this
  have hb0 : Below w.heap.size w (w.alloc (.cells (Array.replicate K (.int .i64 0)) 3)) := (Below.refl _ _).alloc (Nat.le_refl _) _
  obtain ⟨fb, hfb⟩ : ∃ fb, w.heap.size = fb := ⟨_, rfl⟩
  rw [hfb] at hrow0 hb0 hmk
  have hst0 := hid (And.intro hrow0 hb0)
  clear h hrow0 hb0
  go_enter Tryd.func12, Tryd.ntmps12
  go_wp2_with fail
  go_loopw [10] (fun u wr => ∃ i : Nat, i ≤ K ∧ u = .int .i64 (i : Int) ∧ Hid (wr.ownsRow fb 3 1 (.slice (some ⟨fb, 0, none⟩) K K) K (fcs K (fun x => if x < i then -1 else 0)) ∧ Below fb w wr)) (fun u _ => K - (intOf u).toNat)
  case atStart => exact ⟨0, by omega, by go_num, hst0⟩
  case round =>
    obtain ⟨i, hi, rfl, hs⟩ := hrel
    rcases Nat.lt_or_ge i K with hlt | hge
    · have c0 := (hs.out.1.cellAt i (by omega)).trans (fcs_get hlt)
      have z0 := hs.out.1.frozenAt i
      obtain ⟨o1, g1⟩ := hs.out.1.stored i (.int .i64 (-1))
      rw [fcs_step] at o1
      have hs2 := hid (And.intro o1 (below_row hs.out.2 (by omega) hs.out.1 (Nat.le_refl _) g1))
      clear o1 g1 hst0
      go_wp2_with fail
      go_roundw
      case rel => exact ⟨i + 1, by omega, by go_num, hs2⟩
      case measure => simp [intOf]; omega
    · obtain rfl : i = K := by omega
      have c0 := (hs.out.1.cellAt a (by omega)).trans (fcs_get ha)
      have z0 := hs.out.1.frozenAt a
      obtain ⟨o1, g1⟩ := hs.out.1.stored a (.int .i64 (a : Int))
      rw [fcs_set, fcs_congr (G := fun x => if x = a then (a : Int) else -1) (fun x hx => by simp [hx])] at o1
      have b1 := below_row hs.out.2 (by omega) hs.out.1 (Nat.le_refl _) g1
      have hst1 : Hid (BS lo fb i a (.slice lad ls.length lcap) ls (fun x => if x = a then (a : Int) else -1) (.slice (some ⟨wr.heap.size, 0, none⟩) 1 1) [a] w ((wr.setCell ⟨fb, a, none⟩ (.int .i64 (a : Int))).alloc (.cells #[.int .i64 (a : Int)] 3))) := by
        have hsz := hs.out.2.size
        have hfl : fb < wr.heap.size := World.block_lt_of_cell? wr _ c0
        refine hid ⟨⟨o1.alloc _, ?_, b1.alloc (by simp [World.setCell]; omega) _, Nat.le_refl _, by omega⟩, BF.init ha, ?_⟩
        · have := World.ownsRow_lit (base := fb + 1) (e := 3) (size := 1) (wr.setCell ⟨fb, a, none⟩ (.int .i64 (a : Int))) #[.int .i64 (a : Int)] 1 (by simp [World.setCell]; omega) (by unfold maxLen; omega) rfl
          simpa [World.setCell, icn] using this
        · refine hh.out.below ?_
          rw [hfb]
          exact b1.alloc (by simp [World.setCell]; omega) _
      clear hst0 hmk o1 g1 b1
      go_wp2_with fail
      go_loopw [11, 12, 13, 14, 15] (fun u u12 _ _ _ wr => ∃ (i' : Nat) (F : Nat → Int) (al : List Nat), i' ≤ al.length ∧ u12 = .int .i64 (i' : Int) ∧ Hid (BS lo fb i a (.slice lad ls.length lcap) ls F u al w wr ∧ DoneI (adjL ls) al i')) (fun _ u12 _ _ _ _ => i - (intOf u12).toNat)
      case atStart => exact ⟨0, _, _, by simp, by go_num, hid ⟨hst1.out, fun p x hp => by omega⟩⟩
      case round =>
        clear hst1 c0 z0 hs
        obtain ⟨i', F, al, hi', rfl, hs2⟩ := hrel
        rcases Nat.lt_or_ge i' al.length with hlt2 | hge2
        · obtain ⟨x, hx⟩ : ∃ x, al[i']? = some x := ⟨_, List.getElem?_eq_getElem hlt2⟩
          have hxh := hid hx
          obtain ⟨g, cap, hv, _⟩ := hs2.out.1.bw.cellA hx
          subst hv
          clear hx
          go_wp2_with fail
          go_loopw [11, 13, 14, 15] (fun u u13 _ _ wr => ∃ (k : Nat) (F : Nat → Int) (al : List Nat), k ≤ ls.length ∧ u13 = .int .i64 (k : Int) ∧ Hid (BS lo fb i a (.slice lad ls.length lcap) ls F u al w wr ∧ DoneI (adjL ls) al i' ∧ DoneK ls al x k ∧ al[i']? = some x)) (fun _ u13 _ _ _ => ls.length - (intOf u13).toNat)
          case atStart => exact ⟨0, F, al, by omega, by go_num, hid ⟨hs2.out.1, hs2.out.2, fun q e hq => by omega, hxh.out⟩⟩
          case round =>
            obtain ⟨k, F, al, hk, rfl, hs3⟩ := hrel
            rcases Nat.lt_or_ge k ls.length with hlt3 | hge3
            · obtain ⟨⟨p, r⟩, he⟩ : ∃ z, ls[k]? = some z := ⟨_, List.getElem?_eq_getElem hlt3⟩
              obtain ⟨hp, hr, hpr⟩ := hls.out (p, r) (List.mem_of_getElem? he)
              simp only at hp hr hpr
              obtain ⟨g3, cap3, hv3, _⟩ := hs3.out.1.bw.cellA hs3.out.2.2.2
              subst hv3
              obtain ⟨lg, lc, hlv, l0, l1⟩ := hs3.out.1.lk.at he
              injection hlv with q1 q2 q3
              subst q1 q3
              clear q2
              have h2 := hs3.out.1.more (Below.refl _ _).drew
              replace he := hid he
              clear hs2
              go_wp2_with fail
              go_region
              generalize hwd : wr.drew = wd at h2 ⊢
              have hI := hid hs3.out.2.1
              have hKk := hid hs3.out.2.2.1
              have hxi := hid hs3.out.2.2.2
              obtain ⟨g5, cap5, hv5, ca⟩ := h2.bw.cellA hxi.out
              cases hv5
              obtain ⟨fr0, zr⟩ := h2.bw.cellF hr
              obtain ⟨fp0, zp⟩ := h2.bw.cellF hp
              have hal := h2.bf.len
              have hil : i' < al.length := (List.getElem?_eq_some_iff.1 hxi.out).1
              clear hs3 l0 l1 hwd
              by_cases hpx : p = x
              · subst hpx
                have t2 : ((r : Int) == (p : Int)) = false := by rw [beq_eq_false_iff_ne]; omega
                by_cases hF : F r < 0
                · have s1 : decide (F r < 0) = true := decide_eq_true hF
                  have own2 := (h2.bw.setF r (p : Int)).al.alloc (.cells #[.int .i64 (r : Int)] 3)
                  have hnew := one_new (wd.setCell ⟨fb, r, none⟩ (.int .i64 (p : Int))) wd.heap.size r (by simp [World.setCell])
                  have hszd : fb + 1 ≤ wd.heap.size := by have := World.block_lt_of_cell? wd _ fr0; exact this
                  replace h2 := hid h2
                  go_wp2_with (at_builtin; refine wpList_append_own _ rfl (.tmp 72) (.tmp 74) 40 rfl (fb + 1) 3 i0 _ 1 8 Tryd.underlying40 hif hz0 hz1 hz2 rfl (by decide) _ _ _ rfl own2 ⟨wd.heap.size, 0, none⟩ 1 1 [icn r] rfl rfl hnew (icn_one [r]) (by unfold maxLen; omega) (by omega) (by simp [World.setCell]; omega) ?_; intro v5 w5 ho5 hg5 _; refine Hid.out ?_)
                  have h5 := h2.out.push hh.out hfb hxi.out hr hF ⟨_, List.mem_of_getElem? he.out, Or.inl ⟨rfl, rfl⟩⟩ ho5 hg5
                  have hx5 : (al ++ [r])[i']? = some p := by rw [List.getElem?_append_left hil]; exact hxi.out
                  obtain ⟨g6, cap6, hv6, ca6⟩ := h5.bw.cellA hx5
                  subst hv6
                  have st5 : Hid (BS lo fb i a (.slice (some ⟨lg, 0, none⟩) ls.length lcap) ls _ _ (al ++ [r]) w w5 ∧ DoneI (adjL ls) (al ++ [r]) i' ∧ DoneK ls (al ++ [r]) p (k + 1) ∧ (al ++ [r])[i']? = some p) :=
                    hid ⟨h5, hI.out.more (by omega), hKk.out.more.next he.out (fun _ => by simp) (fun e => absurd e.symm hpr), hx5⟩
                  have hal5 : (al ++ [r]).length = al.length + 1 := by simp
                  clear ho5 hg5 h5 own2 hnew h2 ca fr0 zr fp0 zp hx5
                  refine hid ?_
                  go_wp2_with fail
                  go_roundw
                  case rel => exact ⟨k + 1, _, _, by omega, by go_num, st5⟩
                  case measure => simp [intOf]; omega
                · have s1 : decide (F r < 0) = false := decide_eq_false hF
                  have st5 : Hid (BS lo fb i a (.slice (some ⟨lg, 0, none⟩) ls.length lcap) ls F _ al w wd ∧ DoneI (adjL ls) al i' ∧ DoneK ls al p (k + 1) ∧ al[i']? = some p) := hid ⟨h2, hI.out, hKk.out.next he.out (fun _ => (h2.bf.mem r).1 (by omega)) (fun e => absurd e.symm hpr), hxi.out⟩
                  clear h2
                  go_wp2_with fail
                  go_roundw
                  case rel => exact ⟨k + 1, _, _, by omega, by go_num, st5⟩
                  case measure => simp [intOf]; omega
              · have t1 : ((p : Int) == (x : Int)) = false := by rw [beq_eq_false_iff_ne]; omega
                by_cases hrx : r = x
                · subst hrx
                  by_cases hF : F p < 0
                  · have s1 : decide (F p < 0) = true := decide_eq_true hF
                    have own2 := (h2.bw.setF p (r : Int)).al.alloc (.cells #[.int .i64 (p : Int)] 3)
                    have hnew := one_new (wd.setCell ⟨fb, p, none⟩ (.int .i64 (r : Int))) wd.heap.size p (by simp [World.setCell])
                    have hszd : fb + 1 ≤ wd.heap.size := by have := World.block_lt_of_cell? wd _ fr0; exact this
                    replace h2 := hid h2
                    go_wp2_with (at_builtin; refine wpList_append_own _ rfl (.tmp 93) (.tmp 95) 40 rfl (fb + 1) 3 i0 _ 1 8 Tryd.underlying40 hif hz0 hz1 hz2 rfl (by decide) _ _ _ rfl own2 ⟨wd.heap.size, 0, none⟩ 1 1 [icn p] rfl rfl hnew (icn_one [p]) (by unfold maxLen; omega) (by omega) (by simp [World.setCell]; omega) ?_; intro v5 w5 ho5 hg5 _; refine Hid.out ?_)
                    have h5 := h2.out.push hh.out hfb hxi.out hp hF ⟨_, List.mem_of_getElem? he.out, Or.inr ⟨rfl, rfl⟩⟩ ho5 hg5
                    have hx5 : (al ++ [p])[i']? = some r := by rw [List.getElem?_append_left hil]; exact hxi.out
                    obtain ⟨g6, cap6, hv6, ca6⟩ := h5.bw.cellA hx5
                    subst hv6
                    have st5 : Hid (BS lo fb i a (.slice (some ⟨lg, 0, none⟩) ls.length lcap) ls _ _ (al ++ [p]) w w5 ∧ DoneI (adjL ls) (al ++ [p]) i' ∧ DoneK ls (al ++ [p]) r (k + 1) ∧ (al ++ [p])[i']? = some r) :=
                      hid ⟨h5, hI.out.more (by omega), hKk.out.more.next he.out (fun e => absurd e hpr) (fun _ => by simp), hx5⟩
                    have hal5 : (al ++ [p]).length = al.length + 1 := by simp
                    clear ho5 hg5 h5 own2 hnew h2 ca fr0 zr fp0 zp hx5
                    refine hid ?_
                    go_wp2_with fail
                    go_roundw
                    case rel => exact ⟨k + 1, _, _, by omega, by go_num, st5⟩
                    case measure => simp [intOf]; omega
                  · have s1 : decide (F p < 0) = false := decide_eq_false hF
                    have st5 : Hid (BS lo fb i a (.slice (some ⟨lg, 0, none⟩) ls.length lcap) ls F _ al w wd ∧ DoneI (adjL ls) al i' ∧ DoneK ls al r (k + 1) ∧ al[i']? = some r) := hid ⟨h2, hI.out, hKk.out.next he.out (fun e => absurd e hpr) (fun _ => (h2.bf.mem p).1 (by omega)), hxi.out⟩
                    clear h2
                    go_wp2_with fail
                    go_roundw
                    case rel => exact ⟨k + 1, _, _, by omega, by go_num, st5⟩
                    case measure => simp [intOf]; omega
                · have t2 : ((r : Int) == (x : Int)) = false := by rw [beq_eq_false_iff_ne]; omega
                  have st5 : Hid (BS lo fb i a (.slice (some ⟨lg, 0, none⟩) ls.length lcap) ls F _ al w wd ∧ DoneI (adjL ls) al i' ∧ DoneK ls al x (k + 1) ∧ al[i']? = some x) := hid ⟨h2, hI.out, hKk.out.next he.out (fun e => absurd e hpx) (fun e => absurd e hrx), hxi.out⟩
                  clear h2
                  go_wp2_with fail
                  go_roundw
                  case rel => exact ⟨k + 1, _, _, by omega, by go_num, st5⟩
                  case measure => simp [intOf]; omega
            · obtain rfl : k = ls.length := by omega
              have hd := hid (DoneK.all hs3.out.2.2.1 hs3.out.2.1 hs3.out.2.2.2)
              have hil : i' < al.length := (List.getElem?_eq_some_iff.1 hs3.out.2.2.2).1
              have hal := hs3.out.1.bf.len
              have st6 := hid (And.intro hs3.out.1 hd.out)
              go_wp2_with fail
              go_roundw
              case rel => exact ⟨i' + 1, F, al, by omega, by go_num, st6⟩
              case measure => simp [intOf]; omega
        · obtain rfl : i' = al.length := by omega
          obtain ⟨g, cap, hv, _⟩ := hs2.out.1.bw.cellA hs2.out.1.bf.hd
          subst hv
          have hcl : Hid (Closed (adjL ls) al) := hid (fun x hx y e => by
            obtain ⟨q, hq⟩ := List.mem_iff_getElem?.1 hx
            exact hs2.out.2 q x (List.getElem?_eq_some_iff.1 hq).1 hq y e)
          have hB := hid hs2.out.1
          obtain ⟨fb0, zb0⟩ := hs2.out.1.bw.cellF hb
          clear hs2
          by_cases hF : F b < 0
          · have s1 : decide (F b < 0) = true := decide_eq_true hF
            go_wp2_with fail
            go_ret
            refine ⟨_, rfl, by rw [hfb]; exact hB.out.bw.below, Or.inl ⟨rfl, fun l hw => ?_⟩⟩
            obtain ⟨b', e1, e2⟩ := hcl.out.reach (fun x y e => by obtain ⟨q, _, h | h⟩ := e <;> omega) hw a rfl ((hB.out.bf.mem a).2 (List.mem_of_getElem? hB.out.bf.hd) |> (hB.out.bf.mem a).1)
            obtain rfl : b = b' := by omega
            have := (hB.out.bf.mem b).2 e2
            omega
          · have s1 : decide (F b < 0) = false := decide_eq_false hF
            obtain ⟨j0, hj0⟩ := List.mem_iff_getElem?.1 ((hB.out.bf.mem b).1 (by omega))
            have hfl : fb + 1 ≤ wr.heap.size := World.block_lt_of_cell? wr _ fb0
            have st7 : Hid (OutR (adjL ls) al b j0 b [b] ∧ (wr.alloc (.cells #[.int .i64 (b : Int)] 3)).ownsRow (fb + 1) 3 1 (.slice (some ⟨wr.heap.size, 0, none⟩) 1 1) [b].length ([b].map icn) ∧ BS lo fb i a (.slice lad ls.length lcap) ls F (.slice (some ⟨g, 0, none⟩) al.length cap) al w (wr.alloc (.cells #[.int .i64 (b : Int)] 3))) := by
              refine hid ⟨OutR.one hj0, ?_, hB.out.more ((Below.refl _ _).alloc (Nat.le_refl _) _)⟩
              exact World.ownsRow_lit (base := fb + 1) (e := 3) (size := 1) wr #[.int .i64 (b : Int)] 1 hfl (by unfold maxLen; omega) rfl
            clear hB hj0
            go_wp2_with fail
            go_loopw [16] (fun u wr => ∃ (j y : Nat) (l : List Nat), Hid (OutR (adjL ls) al b j y l ∧ wr.ownsRow (fb + 1) 3 1 u l.length (l.map icn) ∧ BS lo fb i a (.slice lad ls.length lcap) ls F (.slice (some ⟨g, 0, none⟩) al.length cap) al w wr)) (fun u _ => i + 1 - lenOf u)
            case atStart => exact ⟨j0, b, [b], st7⟩
            case round =>
              clear st7 fb0 zb0
              obtain ⟨j, y, l, hs4⟩ := hrel
              obtain ⟨g7, cap7, hv7, cy⟩ := ints_at hs4.out.2.1 hs4.out.1.hd
              subst hv7
              have hlp : 0 < l.length := (List.getElem?_eq_some_iff.1 hs4.out.1.hd).1
              by_cases hya : y = a
              · subst hya
                go_wp2_with fail
                go_ret
                refine ⟨_, rfl, by rw [hfb]; exact hs4.out.2.2.bw.below, Or.inr ⟨l, ?_, hs4.out.1.road⟩⟩
                rw [hfb]
                have := hs4.out.2.1
                exact ⟨this.1, this.2.imp id fun ⟨g, cap, cur, h1, h2, h3⟩ => ⟨g, cap, cur, h1, by omega, h3⟩⟩
              · have t1 : ((y : Int) == (a : Int)) = false := by rw [beq_eq_false_iff_ne]; omega
                obtain ⟨i2, p, h1, h2, h3, h4⟩ := hs4.out.1.step hs4.out.2.2.bf hya
                have hyK : y < i := hs4.out.2.2.bf.lt y (List.mem_of_getElem? hs4.out.1.at_)
                obtain ⟨fy, _⟩ := hs4.out.2.2.bw.cellF hyK
                rw [h2] at fy
                have hll : l.length + 1 ≤ i := by
                  have := nodup_le i (p :: l) h4.nd (fun z hz => by
                    obtain ⟨q, _, hq⟩ := h4.far z hz
                    exact hs4.out.2.2.bf.lt z (List.mem_of_getElem? hq))
                  simpa using this
                have hfl2 : fb + 1 ≤ wr.heap.size := World.block_lt_of_cell? wr _ fy
                have own1 : (wr.alloc (.cells #[.int .i64 (p : Int)] 3)).ownsRow (fb + 1) 3 1 (.slice (some ⟨wr.heap.size, 0, none⟩) 1 1) 1 [icn p] := World.ownsRow_lit (base := fb + 1) (e := 3) (size := 1) wr #[.int .i64 (p : Int)] 1 hfl2 (by unfold maxLen; omega) rfl
                have own2 := hs4.out.2.1.alloc (.cells #[.int .i64 (p : Int)] 3)
                have hnews : ∀ q u, (l.map icn)[q]? = some u → (wr.alloc (.cells #[.int .i64 (p : Int)] 3)).cell? ((⟨g7, 0, none⟩ : Addr).add q) = some u := fun q u hu => by
                  rw [add_from, Nat.zero_add, own2.cellAt q (by have := (List.getElem?_eq_some_iff.1 hu).1; simp at this; omega)]
                  exact hu
                clear own2
                go_wp2_with (at_builtin; refine wpList_append_own _ rfl (.tmp 115) (.tmp 116) 40 rfl (fb + 1) 3 i0 _ 1 8 Tryd.underlying40 hif hz0 hz1 hz2 rfl (by decide) _ _ _ rfl own1 ⟨g7, 0, none⟩ l.length cap7 (l.map icn) rfl (by simp) hnews (icn_one l) (by unfold maxLen; omega) (by omega) (by simp; omega) ?_; intro v8 w8 ho8 hg8 _; refine Hid.out ?_)
                have hb8 : Below wr.heap.size wr w8 := by
                  have hbr : (wr.alloc (.cells #[.int .i64 (p : Int)] 3)).ownsRow wr.heap.size 3 1 (.slice (some ⟨wr.heap.size, 0, none⟩) 1 1) 1 [icn p] := World.ownsRow_lit (base := wr.heap.size) (e := 3) (size := 1) wr #[.int .i64 (p : Int)] 1 (Nat.le_refl _) (by unfold maxLen; omega) rfl
                  exact below_row ((Below.refl _ _).alloc (Nat.le_refl _) _) (Nat.le_refl _) hbr (Nat.le_refl _) hg8
                have ho9 : w8.ownsRow (fb + 1) 3 1 v8 (p :: l).length ((p :: l).map icn) := by
                  have e : (p :: l).length = 1 + l.length := by simp; omega
                  rw [e]
                  exact ho8
                have st8 := hid (And.intro h4 (And.intro ho9 (hs4.out.2.2.more hb8)))
                obtain ⟨g9, cap9, hv9, _⟩ := ints_at ho9 h4.hd
                subst hv9
                clear ho8 ho9 hg8 hb8 own1 hnews fy
                refine hid ?_
                go_wp2_with fail
                go_roundw
                case rel => exact ⟨i2, p, p :: l, st8⟩
                case measure => simp [lenOf]; omega

end Go.Proofs.YtnkgpjjlgbggcaaDoor

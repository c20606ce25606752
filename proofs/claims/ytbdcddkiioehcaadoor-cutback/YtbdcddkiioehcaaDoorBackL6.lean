/- 'CutBack', walked. -/
import Derived.Test.YtbdcddkiioehcaaDoorRows6
import Derived.Test.YtbdcddkiioehcaaDoorLinks6
import Derived.Deep.AppendLies
import Derived.OwnWalk
namespace Go.Proofs.YtbdcddkiioehcaaDoor
open Go.RowKit
set_option linter.unusedVariables false

theorem iw (x : Int) : IntKind.i64.wrap x = wrap64 x := by rw [IntKind.wrap_i64]; unfold wrap64; omega

open Classical in
/-- The road, or nothing. -/
noncomputable def roadOf (adj : Nat → Nat → Prop) (a b : Nat) : List Nat := if h : ∃ l, Rd adj a b l then Classical.choose h else []

theorem roadOf_rd {adj : Nat → Nat → Prop} {a b : Nat} (h : ∃ l, Rd adj a b l) : Rd adj a b (roadOf adj a b) := by
  unfold roadOf; rw [dif_pos h]; exact Classical.choose_spec h
theorem roadOf_no {adj : Nat → Nat → Prop} {a b : Nat} (h : ¬ ∃ l, Rd adj a b l) : roadOf adj a b = [] := by
  unfold roadOf; rw [dif_neg h]

/-- The value is a row of these nodes, nil where there are none. -/
def Nz (w : World) (u : Value) (l : List Nat) : Prop := (l = [] ∧ u = .slice none 0 0) ∨ (∃ g, u = .slice (some ⟨g, 0, none⟩) l.length l.length ∧ RB w g l)

theorem Nz.keep {w w' : World} {u : Value} {l : List Nat} (h : Nz w u l) (k : Keep w w') : Nz w' u l := by
  rcases h with h | ⟨g, h1, h2⟩
  · exact Or.inl h
  · exact Or.inr ⟨g, h1, h2.keep k⟩

theorem Nz.ns {w : World} {u : Value} {l : List Nat} (h : Nz w u l) (hl : l.length ≤ 4294967296) : Ns w u (items l) := by
  rcases h with ⟨rfl, rfl⟩ | ⟨g, h1, h2⟩
  · exact ⟨none, 0, rfl, fun _ => rfl, by decide, fun a ha => by cases ha⟩
  · exact Rb.ns ⟨g, h1, h2⟩ hl

section
variable {lo fb n : Nat} {w w0 : World} {v : Nat → Int} {adj : Nat → Nat → Prop}

theorem FS.listAny (h : FS lo w fb n v adj w0) (x y : Nat) (hx : x < n) (hy : y < n) :
    Calls Tryd.prog 22 #[.pointer (some ⟨fb, 0, none⟩), .int .i64 (x : Int), .int .i64 (y : Int)] w0 fun e w' => ∃ u e2, e = .returned (.tuple #[u, e2]) ∧ Nz w' u (roadOf adj (x + 1) (y + 1)) ∧ (roadOf adj (x + 1) (y + 1)).length ≤ n ∧ FS lo w fb n v adj w' ∧ Keep w0 w' := by
  by_cases hl : ∃ l, Rd adj (x + 1) (y + 1) l
  · have hr := roadOf_rd hl
    exact (h.listY x y hx hy _ hr).mono (fun e w' ⟨u, h1, ⟨g, h2, h3⟩, h4, h5⟩ => ⟨u, _, h1, Or.inr ⟨g, h2, h3⟩, h.few hr hx, h4, h5⟩)
  · rw [roadOf_no hl]
    exact (h.listN x y hx hy (fun l e => hl ⟨l, e⟩)).mono (fun e w' ⟨h1, h4, h5⟩ => ⟨_, _, h1, Or.inl ⟨rfl, rfl⟩, Nat.zero_le _, h4, h5⟩)

theorem FS.grownR (h : FS lo w fb n v adj w0) {base k : Nat} {u : Value} {xs : List Value} {w' : World} (ho : w0.ownsRow base 40 1 u k xs) (hg : w0.grownBy w' u.ownBlock) (hlo : lo ≤ base) : FS lo w fb n v adj w' := by
  have hty : ∀ j, u.ownBlock = some j → base ≤ j ∧ ∃ cs fr, w0.heap[j]? = some (.cells cs 40 fr) := by
    intro j hj
    have hlt := ho.lt j hj
    rcases ho.2 with ⟨rfl, _⟩ | ⟨g, cap, cur, rfl, _, hgg, _⟩
    · simp [Value.ownBlock] at hj
    · simp [Value.ownBlock] at hj
      subst hj
      exact ⟨hlt.1, _, _, hgg⟩
  have ht : Turned (fun j => u.ownBlock = some j) w0 w' := ⟨hg.os, hg.tape, hg.output, hg.size, fun k hk ho => hg.block k hk (fun e => ho e.symm)⟩
  obtain ⟨nb, N, T, sub, seq, pp, par, f1, f2, f3, f4, f5⟩ := h.st
  have nf : ¬ u.ownBlock = some fb := fun e => by
    obtain ⟨_, cs, fr, e2⟩ := hty fb e
    rw [f1.self] at e2
    injection e2 with e2; injection e2 with _ e2; exact absurd e2 (by decide)
  have nn : ¬ u.ownBlock = some nb := fun e => by
    obtain ⟨_, cs, fr, e2⟩ := hty nb e
    rw [f1.nodes] at e2
    injection e2 with e2; injection e2 with _ e2; exact absurd e2 (by decide)
  exact ⟨⟨nb, N, T, sub, seq, pp, par, f1.of ht nf nn, f2, f3, f4, f5⟩, h.flo, h.below.trans (ht.below (fun j hj => by have := (hty j hj).1; omega) (Nat.le_trans h.lw h.below.size)), h.n1, h.n2, h.lw⟩
end

/-- What an append of rows leaves: the rows themselves. -/
theorem Nz.grownR {w0 w' : World} {base k : Nat} {o : Value} {xs : List Value} (ho : w0.ownsRow base 40 1 o k xs) (hg : w0.grownBy w' o.ownBlock) {u : Value} {l : List Nat} (h : Nz w0 u l) : Nz w' u l := by
  rcases h with h | ⟨g, h1, h2⟩
  · exact Or.inl h
  · refine Or.inr ⟨g, h1, (hg.block g (Array.getElem?_eq_some_iff.1 h2).1 (fun e => ?_)).trans h2⟩
    rcases ho.2 with ⟨rfl, _⟩ | ⟨g', cap, cur, rfl, _, hgg, _⟩
    · simp [Value.ownBlock] at e
    · simp [Value.ownBlock] at e
      subst e
      rw [show w0.heap[g]? = _ from h2] at hgg
      injection hgg with hgg; injection hgg with _ hgg; exact absurd hgg (by decide)

theorem Keep.rows {w w' : World} (h : Keep w w') {base n : Nat} {v : Value} {xs : List Value} (ho : w.ownsRow base 40 1 v n xs) : w'.ownsRow base 40 1 v n xs := by
  refine ⟨ho.1, ?_⟩
  rcases ho.2 with hn | ⟨g, cap, cur, rfl, hb, hgg, rest⟩
  · exact .inl hn
  · exact .inr ⟨g, cap, cur, rfl, hb, h g _ _ _ hgg (by decide) (by decide), rest⟩

/-- The rows of the roads that have come. -/
def Rs (w : World) (base : Nat) (o : Value) (rs : List Value) (adj : Nat → Nat → Prop) : Prop := w.ownsRow base 40 1 o rs.length rs ∧ ∀ x u, rs[x]? = some u → Nz w u (roadOf adj 1 (x + 1))

theorem Rs.keep {w w' : World} {base : Nat} {o : Value} {rs : List Value} {adj : Nat → Nat → Prop} (h : Rs w base o rs adj) (k : Keep w w') : Rs w' base o rs adj := ⟨k.rows h.1, fun x u hu => (h.2 x u hu).keep k⟩

theorem infoInts : (Tryd.prog.info? 40).map (fun i => (i.zero, i.size, i.bytes)) = some (some (.slice none 0 0), 1, 24) := by kernel_rfl

theorem new_one (w : World) (u : Value) (t : TypeId) : ∀ (j : Nat) x, [u][j]? = some x → (w.alloc (.cells #[u] t)).cell? ((⟨w.heap.size, 0, none⟩ : Addr).add j) = some x := by
  intro j x hu
  have hj : j = 0 := by
    have := (List.getElem?_eq_some_iff.1 hu).1
    simp at this; omega
  subst hj
  simp at hu
  subst hu
  rw [show (⟨w.heap.size, 0, none⟩ : Addr).add 0 = ⟨w.heap.size, 0, none⟩ from by unfold Addr.add; simp]
  unfold World.cell?
  rw [heap_alloc_new]
  simp

theorem Nz.one {w : World} {u : Value} {l : List Nat} (h : Nz w u l) : u.oneCell' = true := by
  rcases h with ⟨_, rfl⟩ | ⟨g, rfl, _⟩ <;> rfl

/-- Two linked nodes that are cut are not of one tree. -/
theorem cut_apart {adj : Nat → Nat → Prop} (h : Wood adj) {a b : Nat} (e : adj a b) : ∀ l, ¬ Rd (delE adj a b) a b l := fun l hl => by
  have h1 : Rd adj a b l := ⟨hl.wk.mono (fun x y _ _ h => h.1), hl.nd⟩
  have h2 := h.uniq h1 (h.near e)
  subst h2
  exact (hl.two rfl).2.1 ⟨rfl, rfl⟩

set_option maxRecDepth 100000 in
set_option maxHeartbeats 8000000 in
theorem back_law (n : Int) (ad : Option Addr) (qs : List Act4) (cap : Nat) (o0 o1 : Int) (w : World) (hg : Handle w) (hq : Acts w ad qs) :
    Calls Tryd.prog 6 #[.int .i64 n, .slice ad qs.length cap, .agg #[.int .i64 o0, .int .i64 o1]] w fun e w' => e = .returned (.bool true) ∧ Below w.heap.size w w' := by
  obtain ⟨K, hK, hK1, hK2⟩ := mod_up2 n 30 (by decide) (by decide)
  have hK31 : K ≤ 31 := by omega
  have hql := hq.bound
  obtain ⟨wb, hwb⟩ : ∃ wb, w.alloc (.cells #[.int .i64 o0, .int .i64 o1] 42) = wb := ⟨_, rfl⟩
  have bb : Below w.heap.size w wb := by rw [← hwb]; exact (Below.refl _ _).alloc (Nat.le_refl _) _
  have hbn : wb.heap[w.heap.size]? = some (.cells #[.int .i64 o0, .int .i64 o1] 42 (0, 0)) := by rw [← hwb]; exact heap_alloc_new w _
  obtain ⟨ob, hob⟩ : ∃ ob, w.heap.size = ob := ⟨_, rfl⟩
  have hoblt : ob < wb.heap.size := by rw [hob] at hbn; exact (Array.getElem?_eq_some_iff.1 hbn).1
  have hofs : Hid (∀ y, Below wb.heap.size wb y → y.cell? ⟨ob, 0, none⟩ = some (.int .i64 o0) ∧ y.cell? ⟨ob, 1, none⟩ = some (.int .i64 o1)) := fun y hy => by
    rw [hob] at hbn
    have e := (hy.block ob hoblt).trans hbn
    constructor <;> (unfold World.cell?; rw [e]; simp)
  have hq : Hid (Acts wb ad qs) := hid (hq.below bb)
  have hg : Hid (Handle wb) := hid (hg.belowB bb (World.block_lt_of_cell? w _ hg))
  have bb := hid bb
  have nK : ¬ K = 0 := by omega
  have nK' : ¬ (K : Int) = 0 := by omega
  clear hbn
  go_enter Tryd.func6, Tryd.ntmps6
  go_wp2_with fail
  try rw [hK]
  try rw [hwb]
  try rw [hob]
  refine (new_ok K wb (by omega) (by omega)).mono ?_
  rintro e w1 ⟨fb, rfl, h1⟩
  have st1 : Hid (∃ v adj, FS wb.heap.size wb fb K v adj w1) := ⟨_, _, h1⟩
  clear h1 hK hwb hob
  go_wp2_with fail
  go_loopw [10] (fun u wr => ∃ t : Nat, t ≤ qs.length ∧ t ≤ 60 ∧ u = .int .i64 (t : Int) ∧ Hid (∃ v adj, FS wb.heap.size wb fb K v adj wr)) (fun u _ => 60 - (intOf u).toNat)
  case atStart => exact ⟨0, by omega, by omega, by go_num, st1⟩
  case round =>
    clear st1
    obtain ⟨t, ht1, ht2, rfl, hst⟩ := hrel
    by_cases hgo : t < qs.length ∧ t < 60
    · obtain ⟨hgo1, hgo2⟩ := hgo
      obtain ⟨q, hqt⟩ : ∃ q, qs[t]? = some q := ⟨_, List.getElem?_eq_getElem hgo1⟩
      obtain ⟨v, adj, h1⟩ := hst.out
      cases ad with
      | none => have := hq.out.nil rfl; subst this; simp at hgo1
      | some a0 =>
        obtain ⟨c0, c1, c2, c3⟩ := (hq.out.below h1.below).at hqt
        obtain ⟨a, ha, haK⟩ := mod_inN q.a K (by omega) (by omega)
        obtain ⟨b, hb, hbK⟩ := mod_inN q.b K (by omega) (by omega)
        have i1 : (0 : Int) ≤ (t : Int) := by omega
        have i2 : (t : Int) < (qs.length : Int) := by omega
        have hKw : IntKind.u64.wrap (K : Int) = (K : Int) := by rw [IntKind.wrap_u64]; omega
        have ha' : IntKind.i64.wrap ((IntKind.u64.wrap q.a).tmod (K : Int)) = (a : Int) := (iw _).trans ha
        have hb' : IntKind.i64.wrap ((IntKind.u64.wrap q.b).tmod (K : Int)) = (b : Int) := (iw _).trans hb
        have hlk : Hid (∀ y, FS wb.heap.size wb fb K v adj y → Calls Tryd.prog 12 #[.pointer (some ⟨fb, 0, none⟩), .int .i64 (a : Int), .int .i64 (b : Int)] y fun e w' => ∃ r, e = .returned r ∧ (∃ adj', FS wb.heap.size wb fb K v adj' w') ∧ Keep y w') := hid (fun y hy => hy.linkAny a b haK hbK)
        have h1 := hid h1.drew
        have hqt := hid hqt
        clear hst c0 c3
        go_wp2_with fail
        go_region_held3 (fun w' => w'.cell? ⟨(a0.add (t * 4)).block, (a0.add (t * 4)).off + 1, none⟩ = some (.int .i64 q.a) ∧ w'.cell? ⟨(a0.add (t * 4)).block, (a0.add (t * 4)).off + 2, none⟩ = some (.int .i64 q.b)) (first | exact ⟨g1', g2'⟩ | exact ⟨c1, c2⟩ | go_keep) ((go_at_call 12; (try rw [ha', hb']); refine (hlk.out _ h1.out).mono ?_; rintro e w2 ⟨r2, rfl, ⟨adj2, h2⟩, k2⟩; have g1' := ((hq.out.below h2.below).at hqt.out).2.1; have g2' := ((hq.out.below h2.below).at hqt.out).2.2.1; have st4 : Hid (∃ v adj, FS wb.heap.size wb fb K v adj w2) := ⟨_, _, h2⟩; clear h2 k2))
        all_goals
          go_wp2_with fail
          go_roundw
          case rel => exact ⟨t + 1, by omega, by omega, by go_num, st4⟩
          case measure => simp [intOf]; omega
    · have hstop : qs.length ≤ t ∨ (t < qs.length ∧ 60 ≤ t) := by omega
      clear hgo
      obtain ⟨v, adj, h1⟩ := hst.out
      obtain ⟨f0, f1⟩ := hofs.out wr h1.below
      obtain ⟨a, ha, haK⟩ := mod_inN o0 K (by omega) (by omega)
      obtain ⟨b, hb, hbK⟩ := mod_inN o1 K (by omega) (by omega)
      obtain ⟨i0, hif, hz0, hz1, hz2⟩ := info_parts infoInts
      have h1 := hid h1
      have hw := hid h1.out.wood
      clear hst
      rcases hstop with hstop | ⟨hstop1, hstop2⟩
      all_goals
        go_wp2_with fail
        go_region
        rw [ha, hb]
        have h1 := hid h1.out.drew
        generalize wr.drew = w1 at h1 ⊢
        have st2 : Hid (FS wb.heap.size wb fb K v adj w1 ∧ Rs w1 wb.heap.size (.slice none 0 0) [] adj) := ⟨h1.out, ⟨World.ownsRow_nil w1 wb.heap.size 40 1, fun x u hu => by simp at hu⟩⟩
        clear f0 f1 ha hb h1
        go_wp2_with fail
        go_loopw [13, 14, 15, 16] (fun o u _ _ wy => ∃ (j : Nat) (rs : List Value), j ≤ K ∧ u = .int .i64 (j : Int) ∧ rs.length = j ∧ Hid (FS wb.heap.size wb fb K v adj wy ∧ Rs wy wb.heap.size o rs adj)) (fun _ u _ _ _ => K - (intOf u).toNat)
        case atStart => exact ⟨0, [], by omega, by go_num, rfl, st2⟩
        case round =>
          clear st2
          obtain ⟨j, rs, hj, rfl, hlen, hst⟩ := hrel
          obtain ⟨h2, hr2⟩ := hst.out
          by_cases hjK : j < K
          · have tj : decide ((j : Int) < (K : Int)) = true := decide_eq_true (by omega)
            have hl31 : rs.length ≤ 31 := by omega
            have h2 := hid h2
            have hr2 := hid hr2
            replace hlen := hid hlen
            clear hst
            go_wp2_with fail
            refine (h2.out.listAny 0 j (by omega) hjK).mono ?_
            rintro e w3 ⟨u3, e3, rfl, z3, n3, h3, k3⟩
            replace z3 : Nz w3 u3 (roadOf adj 1 (j + 1)) := z3
            have hr3 := hid (hr2.out.keep k3)
            have hsz3 := h3.below.size
            have h3 := hid h3
            have z3h := hid z3
            clear h2 hr2 k3 n3
            obtain ⟨ℓ, hℓ⟩ : ∃ ℓ, roadOf adj 1 (j + 1) = ℓ := ⟨_, rfl⟩
            rw [hℓ] at z3 z3h
            replace hℓ := hid hℓ
            obtain ⟨m3, hm3⟩ : ∃ m3, ℓ.length = m3 := ⟨_, rfl⟩
            rcases z3 with ⟨el, rfl⟩ | ⟨g3, hu3, _⟩
            · clear el hm3
              have hrow := hr3.out.1.alloc (.cells #[.slice none 0 0] 40)
              go_wp2_with (at_builtin; refine wpList_append_lies _ rfl (.tmp 95) (.tmp 97) 55 rfl wb.heap.size 40 i0 _ 1 24 Tryd.underlying55 hif hz0 hz1 hz2 rfl (by decide) _ _ _ rfl hrow ⟨w3.heap.size, 0, none⟩ 1 1 [.slice none 0 0] rfl rfl (new_one w3 _ _) (by simp [Value.oneCell']) (by decide) (by unfold maxLen; omega) (by omega) (by simp; omega) _ rfl ?_; intro g5 cap5 w5 hown5 hgrow5 hg5 hlt5; refine Hid.out ?_)
              have h5 := (h3.out.alloc (.cells #[.slice none 0 0] 40)).grownR hrow hgrow5 (Nat.le_refl _)
              have hr5 : Rs w5 wb.heap.size (.slice (some ⟨g5, 0, none⟩) (rs.length + 1) cap5) (rs ++ [.slice none 0 0]) adj := by
                refine ⟨by rw [List.length_append]; exact hown5, fun x u hu => ?_⟩
                have ka := (Keep.refl w3).alloc (.cells #[.slice none 0 0] 40)
                rcases Nat.lt_or_ge x rs.length with hx | hx
                · rw [List.getElem?_append_left hx] at hu
                  exact ((hr3.out.2 x u hu).keep ka).grownR hrow hgrow5
                · rw [List.getElem?_append_right hx] at hu
                  have hx2 : x - rs.length = 0 := by have := (List.getElem?_eq_some_iff.1 hu).1; simp at this; omega
                  rw [hx2] at hu
                  simp at hu
                  subst hu
                  rw [show x = j from by have := hlen.out; omega, hℓ.out]
                  exact (z3h.out.keep ka).grownR hrow hgrow5
              have st5 : Hid (FS wb.heap.size wb fb K v adj w5 ∧ Rs w5 wb.heap.size (.slice (some ⟨g5, 0, none⟩) (rs.length + 1) cap5) (rs ++ [.slice none 0 0]) adj) := ⟨h5, hr5⟩
              clear hown5 hgrow5 hg5 hlt5 h5 hr5 hrow hr3 h3 z3h
              refine hid ?_
              go_wp2_with fail
              go_roundw
              case rel => exact ⟨j + 1, rs ++ [.slice none 0 0], by omega, by go_num, by simp; exact hlen.out, st5⟩
              case measure => simp [intOf]; omega
            · rw [hm3] at hu3
              subst hu3
              replace hm3 := hid hm3
              have hrow := hr3.out.1.alloc (.cells #[.slice (some ⟨g3, 0, none⟩) m3 m3] 40)
              go_wp2_with (at_builtin; refine wpList_append_lies _ rfl (.tmp 95) (.tmp 97) 55 rfl wb.heap.size 40 i0 _ 1 24 Tryd.underlying55 hif hz0 hz1 hz2 rfl (by decide) _ _ _ rfl hrow ⟨w3.heap.size, 0, none⟩ 1 1 [.slice (some ⟨g3, 0, none⟩) m3 m3] rfl rfl (new_one w3 _ _) (by simp [Value.oneCell']) (by decide) (by unfold maxLen; omega) (by omega) (by simp; omega) _ rfl ?_; intro g5 cap5 w5 hown5 hgrow5 hg5 hlt5; refine Hid.out ?_)
              have h5 := (h3.out.alloc (.cells #[.slice (some ⟨g3, 0, none⟩) m3 m3] 40)).grownR hrow hgrow5 (Nat.le_refl _)
              have hr5 : Rs w5 wb.heap.size (.slice (some ⟨g5, 0, none⟩) (rs.length + 1) cap5) (rs ++ [.slice (some ⟨g3, 0, none⟩) m3 m3]) adj := by
                refine ⟨by rw [List.length_append]; exact hown5, fun x u hu => ?_⟩
                have ka := (Keep.refl w3).alloc (.cells #[.slice (some ⟨g3, 0, none⟩) m3 m3] 40)
                rcases Nat.lt_or_ge x rs.length with hx | hx
                · rw [List.getElem?_append_left hx] at hu
                  exact ((hr3.out.2 x u hu).keep ka).grownR hrow hgrow5
                · rw [List.getElem?_append_right hx] at hu
                  have hx2 : x - rs.length = 0 := by have := (List.getElem?_eq_some_iff.1 hu).1; simp at this; omega
                  rw [hx2] at hu
                  simp at hu
                  subst hu
                  rw [show x = j from by have := hlen.out; omega, hℓ.out]
                  exact (z3h.out.keep ka).grownR hrow hgrow5
              have st5 : Hid (FS wb.heap.size wb fb K v adj w5 ∧ Rs w5 wb.heap.size (.slice (some ⟨g5, 0, none⟩) (rs.length + 1) cap5) (rs ++ [.slice (some ⟨g3, 0, none⟩) m3 m3]) adj) := ⟨h5, hr5⟩
              clear hown5 hgrow5 hg5 hlt5 h5 hr5 hrow hr3 h3 z3h
              refine hid ?_
              go_wp2_with fail
              go_roundw
              case rel => exact ⟨j + 1, rs ++ [.slice (some ⟨g3, 0, none⟩) m3 m3], by omega, by go_num, by simp; exact hlen.out, st5⟩
              case measure => simp [intOf]; omega
          · have tj : decide ((j : Int) < (K : Int)) = false := decide_eq_false (by omega)
            have hjK2 : K = j := by omega
            subst hjK2
            rcases hr2.1.2 with ⟨hn1, hn2⟩ | ⟨og, oc, cur, ho, _⟩
            · have : rs.length = 0 := hn2
              omega
            rw [hlen] at ho
            subst ho
            clear hst
            replace hlen := hid hlen
            have h2 := hid h2
            have hr2 := hid hr2
            by_cases hab : ∃ l, Rd adj (a + 1) (b + 1) l
            · obtain ⟨l, hab⟩ := hab
              have hab := hid hab
              go_wp2_with fail
              refine (h2.out.link_same a b haK hbK l hab.out).mono ?_
              rintro e w3 ⟨rfl, h3, k3⟩
              have h3 := hid h3
              have hr3 := hid (hr2.out.keep k3)
              clear h2 hr2 k3
              by_cases had : adj (a + 1) (b + 1)
              · have hno : ∀ l, ¬ Rd (delE adj (a + 1) (b + 1)) (a + 1) (b + 1) l := cut_apart hw.out had
                have had := hid had
                have hno := hid hno
                go_wp2_with fail
                refine (h3.out.cut a b haK hbK had.out).mono ?_
                rintro e w4 ⟨rfl, h4, k4⟩
                have h4 := hid h4
                have hr4 := hid (hr3.out.keep k4)
                clear h3 hr3 k4
                go_wp2_with fail
                refine (h4.out.sameN a b haK hbK hno.out).mono ?_
                rintro e w5 ⟨rfl, h5, k5⟩
                have h5 := hid h5
                have hr5 := hid (hr4.out.keep k5)
                clear h4 hr4 k5
                go_wp2_with fail
                refine (h5.out.link b a hbK haK (fun l e => hno.out _ (h5.out.wood.back e))).mono ?_
                rintro e w6 ⟨rfl, h6, k6⟩
                rw [add_del hw.out had.out] at h6
                have hfs := hid h6
                have hrs := hid (hr5.out.keep k6)
                clear h5 hr5 k6 h6
                have st3 : Hid (FS wb.heap.size wb fb K v adj w6 ∧ Rs w6 wb.heap.size (.slice (some ⟨og, 0, none⟩) K oc) rs adj) := ⟨hfs.out, hrs.out⟩
                clear hfs hrs
                go_wp2_with fail
                go_loopw [19, 20, 21] (fun u _ _ wy => ∃ j : Nat, j ≤ K ∧ u = .int .i64 (j : Int) ∧ Hid (FS wb.heap.size wb fb K v adj wy ∧ Rs wy wb.heap.size (.slice (some ⟨og, 0, none⟩) K oc) rs adj)) (fun u _ _ _ => K - (intOf u).toNat)
                case atStart => exact ⟨0, by omega, by go_num, st3⟩
                case round =>
                  clear st3
                  obtain ⟨j, hj, rfl, hst⟩ := hrel
                  obtain ⟨h6, hr6⟩ := hst.out
                  by_cases hjK : j < K
                  · obtain ⟨uj, huj⟩ : ∃ uj, rs[j]? = some uj := ⟨_, List.getElem?_eq_getElem (by rw [hlen.out]; exact hjK)⟩
                    have tj : decide ((j : Int) < (K : Int)) = true := decide_eq_true (by omega)
                    have h6 := hid h6
                    have hr6 := hid hr6
                    clear hst
                    go_wp2_with fail
                    refine (h6.out.listAny 0 j (by omega) hjK).mono ?_
                    rintro e w7 ⟨u7, e7, rfl, z7, n7, h7, k7⟩
                    have hr7 := hr6.out.keep k7
                    have zj := hr7.2 j uj huj
                    have cj : w7.cell? ⟨og, j, none⟩ = some uj := by
                      have hlt : j < rs.length * 1 := by have := hlen.out; omega
                      have hr71 := hr7.1
                      rw [← hlen.out] at hr71
                      have := hr71.cellAt j hlt
                      rw [this]; simpa using huj
                    have hint := hid (ints_ok u7 uj _ w7 (z7.ns (by omega)) (zj.ns (by have : (roadOf adj 1 (j + 1)).length ≤ K := n7; omega)))
                    have h7 := hid h7
                    have hr7 := hid hr7
                    have i1 : (0 : Int) ≤ (j : Int) := by omega
                    have i2 : (j : Int) < (K : Int) := by omega
                    clear h6 hr6 z7 n7 k7 zj huj
                    go_wp2_with fail
                    refine hint.out.mono ?_
                    rintro e w8 ⟨rfl, b8⟩
                    have st4 : Hid (FS wb.heap.size wb fb K v adj w8 ∧ Rs w8 wb.heap.size (.slice (some ⟨og, 0, none⟩) K oc) rs adj) := ⟨h7.out.more b8, hr7.out.keep (Keep.ofBelow b8)⟩
                    clear h7 hr7 cj b8 hint
                    go_wp2_with fail
                    go_roundw
                    case rel => exact ⟨j + 1, by omega, by go_num, st4⟩
                    case measure => simp [intOf]; omega
                  · have tj : decide ((j : Int) < (K : Int)) = false := decide_eq_false (by omega)
                    have h6 := hid h6
                    clear hst hr6
                    go_wp2_with fail
                    refine (sure_ok _ (h6.out.handle hg.out rfl)).mono ?_
                    rintro e w9 ⟨rfl, b9⟩
                    have h9 := hid (h6.out.more b9)
                    clear b9
                    go_wp2_with fail
                    go_ret
                    exact ⟨rfl, bb.out.trans (h9.out.below.mono bb.out.size)⟩
              · have had := hid had
                go_wp2_with fail
                refine (h3.out.cutN a b haK hbK had.out).mono ?_
                rintro e w4 ⟨rfl, h4, k4⟩
                have hfs := hid h4
                have hrs := hid (hr3.out.keep k4)
                clear h3 hr3 k4 h4
                have st3 : Hid (FS wb.heap.size wb fb K v adj w4 ∧ Rs w4 wb.heap.size (.slice (some ⟨og, 0, none⟩) K oc) rs adj) := ⟨hfs.out, hrs.out⟩
                clear hfs hrs
                go_wp2_with fail
                go_loopw [19, 20, 21] (fun u _ _ wy => ∃ j : Nat, j ≤ K ∧ u = .int .i64 (j : Int) ∧ Hid (FS wb.heap.size wb fb K v adj wy ∧ Rs wy wb.heap.size (.slice (some ⟨og, 0, none⟩) K oc) rs adj)) (fun u _ _ _ => K - (intOf u).toNat)
                case atStart => exact ⟨0, by omega, by go_num, st3⟩
                case round =>
                  clear st3
                  obtain ⟨j, hj, rfl, hst⟩ := hrel
                  obtain ⟨h6, hr6⟩ := hst.out
                  by_cases hjK : j < K
                  · obtain ⟨uj, huj⟩ : ∃ uj, rs[j]? = some uj := ⟨_, List.getElem?_eq_getElem (by rw [hlen.out]; exact hjK)⟩
                    have tj : decide ((j : Int) < (K : Int)) = true := decide_eq_true (by omega)
                    have h6 := hid h6
                    have hr6 := hid hr6
                    clear hst
                    go_wp2_with fail
                    refine (h6.out.listAny 0 j (by omega) hjK).mono ?_
                    rintro e w7 ⟨u7, e7, rfl, z7, n7, h7, k7⟩
                    have hr7 := hr6.out.keep k7
                    have zj := hr7.2 j uj huj
                    have cj : w7.cell? ⟨og, j, none⟩ = some uj := by
                      have hlt : j < rs.length * 1 := by have := hlen.out; omega
                      have hr71 := hr7.1
                      rw [← hlen.out] at hr71
                      have := hr71.cellAt j hlt
                      rw [this]; simpa using huj
                    have hint := hid (ints_ok u7 uj _ w7 (z7.ns (by omega)) (zj.ns (by have : (roadOf adj 1 (j + 1)).length ≤ K := n7; omega)))
                    have h7 := hid h7
                    have hr7 := hid hr7
                    have i1 : (0 : Int) ≤ (j : Int) := by omega
                    have i2 : (j : Int) < (K : Int) := by omega
                    clear h6 hr6 z7 n7 k7 zj huj
                    go_wp2_with fail
                    refine hint.out.mono ?_
                    rintro e w8 ⟨rfl, b8⟩
                    have st4 : Hid (FS wb.heap.size wb fb K v adj w8 ∧ Rs w8 wb.heap.size (.slice (some ⟨og, 0, none⟩) K oc) rs adj) := ⟨h7.out.more b8, hr7.out.keep (Keep.ofBelow b8)⟩
                    clear h7 hr7 cj b8 hint
                    go_wp2_with fail
                    go_roundw
                    case rel => exact ⟨j + 1, by omega, by go_num, st4⟩
                    case measure => simp [intOf]; omega
                  · have tj : decide ((j : Int) < (K : Int)) = false := decide_eq_false (by omega)
                    have h6 := hid h6
                    clear hst hr6
                    go_wp2_with fail
                    refine (sure_ok _ (h6.out.handle hg.out rfl)).mono ?_
                    rintro e w9 ⟨rfl, b9⟩
                    have h9 := hid (h6.out.more b9)
                    clear b9
                    go_wp2_with fail
                    go_ret
                    exact ⟨rfl, bb.out.trans (h9.out.below.mono bb.out.size)⟩
            · have hab : Hid (∀ l, ¬ Rd adj (a + 1) (b + 1) l) := hid (fun l e => hab ⟨l, e⟩)
              have had : Hid (¬ adj (a + 1) (b + 1)) := hid (fun e => hab.out _ (hw.out.near e))
              go_wp2_with fail
              refine (h2.out.link a b haK hbK hab.out).mono ?_
              rintro e w3 ⟨rfl, h3, k3⟩
              have h3 := hid h3
              have hr3 := hid (hr2.out.keep k3)
              clear h2 hr2 k3
              go_wp2_with fail
              refine (h3.out.cut b a hbK haK (Or.inr (Or.inr ⟨rfl, rfl⟩))).mono ?_
              rintro e w4 ⟨rfl, h4, k4⟩
              rw [(del_add hw.out had.out).2] at h4
              have hfs := hid h4
              have hrs := hid (hr3.out.keep k4)
              clear h3 hr3 k4 h4
              have st3 : Hid (FS wb.heap.size wb fb K v adj w4 ∧ Rs w4 wb.heap.size (.slice (some ⟨og, 0, none⟩) K oc) rs adj) := ⟨hfs.out, hrs.out⟩
              clear hfs hrs
              go_wp2_with fail
              go_loopw [19, 20, 21] (fun u _ _ wy => ∃ j : Nat, j ≤ K ∧ u = .int .i64 (j : Int) ∧ Hid (FS wb.heap.size wb fb K v adj wy ∧ Rs wy wb.heap.size (.slice (some ⟨og, 0, none⟩) K oc) rs adj)) (fun u _ _ _ => K - (intOf u).toNat)
              case atStart => exact ⟨0, by omega, by go_num, st3⟩
              case round =>
                clear st3
                obtain ⟨j, hj, rfl, hst⟩ := hrel
                obtain ⟨h6, hr6⟩ := hst.out
                by_cases hjK : j < K
                · obtain ⟨uj, huj⟩ : ∃ uj, rs[j]? = some uj := ⟨_, List.getElem?_eq_getElem (by rw [hlen.out]; exact hjK)⟩
                  have tj : decide ((j : Int) < (K : Int)) = true := decide_eq_true (by omega)
                  have h6 := hid h6
                  have hr6 := hid hr6
                  clear hst
                  go_wp2_with fail
                  refine (h6.out.listAny 0 j (by omega) hjK).mono ?_
                  rintro e w7 ⟨u7, e7, rfl, z7, n7, h7, k7⟩
                  have hr7 := hr6.out.keep k7
                  have zj := hr7.2 j uj huj
                  have cj : w7.cell? ⟨og, j, none⟩ = some uj := by
                    have hlt : j < rs.length * 1 := by have := hlen.out; omega
                    have hr71 := hr7.1
                    rw [← hlen.out] at hr71
                    have := hr71.cellAt j hlt
                    rw [this]; simpa using huj
                  have hint := hid (ints_ok u7 uj _ w7 (z7.ns (by omega)) (zj.ns (by have : (roadOf adj 1 (j + 1)).length ≤ K := n7; omega)))
                  have h7 := hid h7
                  have hr7 := hid hr7
                  have i1 : (0 : Int) ≤ (j : Int) := by omega
                  have i2 : (j : Int) < (K : Int) := by omega
                  clear h6 hr6 z7 n7 k7 zj huj
                  go_wp2_with fail
                  refine hint.out.mono ?_
                  rintro e w8 ⟨rfl, b8⟩
                  have st4 : Hid (FS wb.heap.size wb fb K v adj w8 ∧ Rs w8 wb.heap.size (.slice (some ⟨og, 0, none⟩) K oc) rs adj) := ⟨h7.out.more b8, hr7.out.keep (Keep.ofBelow b8)⟩
                  clear h7 hr7 cj b8 hint
                  go_wp2_with fail
                  go_roundw
                  case rel => exact ⟨j + 1, by omega, by go_num, st4⟩
                  case measure => simp [intOf]; omega
                · have tj : decide ((j : Int) < (K : Int)) = false := decide_eq_false (by omega)
                  have h6 := hid h6
                  clear hst hr6
                  go_wp2_with fail
                  refine (sure_ok _ (h6.out.handle hg.out rfl)).mono ?_
                  rintro e w9 ⟨rfl, b9⟩
                  have h9 := hid (h6.out.more b9)
                  clear b9
                  go_wp2_with fail
                  go_ret
                  exact ⟨rfl, bb.out.trans (h9.out.below.mono bb.out.size)⟩

end Go.Proofs.YtbdcddkiioehcaaDoor

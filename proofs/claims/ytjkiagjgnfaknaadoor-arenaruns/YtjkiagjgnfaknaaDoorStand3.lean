/- Where 'ArenaRuns' stands: the Arena, and the document's places in a variable. -/
import Derived.Test.YtjkiagjgnfaknaaDoorRload3
import Derived.Test.YtjkiagjgnfaknaaDoorPlaces3
namespace Go.Proofs.YtjkiagjgnfaknaaDoor
open Go.RowKit

/-- Places in a block of their own, from lo on. -/
def RB (lo : Nat) (w : World) (ad : Option Addr) (ps : List (Int × Int)) : Prop :=
  Prow w ad ps ∧ ∀ a, ad = some a → lo ≤ a.block ∧ ∃ cs fr, w.heap[a.block]? = some (.cells cs 50 fr)

/-- Where the document's places lie: in the argument, or in a block of their own. -/
def RP (hi : Nat) (w1 wr : World) (ad : Option Addr) (ps : List (Int × Int)) : Prop := Prow w1 ad ps ∨ RB hi wr ad ps

theorem Prow.same {w w' : World} {ad : Option Addr} {ps : List (Int × Int)} (h : Prow w ad ps) (hk : ∀ a, ad = some a → w'.heap[a.block]? = w.heap[a.block]?) : Prow w' ad ps :=
  ⟨h.nil, h.bound, h.num, fun a ha j p hz => by
    obtain ⟨h1, h2⟩ := h.cell a ha j p hz
    exact ⟨(World.cell?_of_block (by rw [add_block]; exact hk a ha)).trans h1, (World.cell?_of_block (by rw [add_block]; exact hk a ha)).trans h2⟩⟩

theorem RB.same {lo : Nat} {w w' : World} {ad : Option Addr} {ps : List (Int × Int)} (h : RB lo w ad ps) (hk : ∀ a, ad = some a → w'.heap[a.block]? = w.heap[a.block]?) : RB lo w' ad ps :=
  ⟨h.1.same hk, fun a ha => by
    obtain ⟨h1, cs, fr, h2⟩ := h.2 a ha
    exact ⟨h1, cs, fr, (hk a ha).trans h2⟩⟩

theorem RB.below {lo : Nat} {w w' : World} {ad : Option Addr} {ps : List (Int × Int)} (h : RB lo w ad ps) (hb : Below w.heap.size w w') : RB lo w' ad ps :=
  h.same (fun a ha => by
    obtain ⟨h1, cs, fr, h2⟩ := h.2 a ha
    exact hb.block _ (Array.getElem?_eq_some_iff.1 h2).1)

theorem RB.mono {lo lo' : Nat} {w : World} {ad : Option Addr} {ps : List (Int × Int)} (h : RB lo w ad ps) (hl : lo' ≤ lo) : RB lo' w ad ps :=
  ⟨h.1, fun a ha => ⟨Nat.le_trans hl (h.2 a ha).1, (h.2 a ha).2⟩⟩

theorem RP.below {hi : Nat} {w1 wr w' : World} {ad : Option Addr} {ps : List (Int × Int)} (h : RP hi w1 wr ad ps) (hb : Below wr.heap.size wr w') : RP hi w1 w' ad ps := h.imp id (fun g => g.below hb)

theorem RP.keep {hi : Nat} {w1 wr w' : World} {ad : Option Addr} {ps : List (Int × Int)} (h : RP hi w1 wr ad ps) (hk : Keep hi wr w') : RP hi w1 w' ad ps :=
  h.imp id (fun g => g.same (fun a ha => by
    obtain ⟨h1, cs, fr, h2⟩ := g.2 a ha
    rw [hk _ _ _ _ h1 h2 (by decide), h2]))

structure SR (lo hi ab K : Nat) (w1 : World) (ps qs : List (Int × Int)) (bb : Nat) (ad : Option Addr) (cap : Nat) (wr : World) : Prop where
  sa : SA lo hi ab K w1 ps wr
  rp : RP hi w1 wr ad qs
  nil : ad = none → cap = 0
  blk : wr.heap[bb]? = some (.cells #[.int .i64 (K : Int), .slice ad qs.length cap] 33 (0, 0))
  hbb : hi ≤ bb
  lo_ : lo = w1.heap.size

section
variable {lo hi ab K bb cap : Nat} {w1 wr w' : World} {ps ps' qs : List (Int × Int)} {ad : Option Addr}

theorem SR.prow (h : SR lo hi ab K w1 ps qs bb ad cap wr) : Prow wr ad qs := by
  rcases h.rp with g | g
  · exact g.below (h.lo_ ▸ h.sa.below)
  · exact g.1

theorem SR.turn (h : SR lo hi ab K w1 ps qs bb ad cap wr) (hs : SA lo hi ab K w1 ps' w') (hk : Keep hi wr w') : SR lo hi ab K w1 ps' qs bb ad cap w' :=
  ⟨hs, h.rp.keep hk, h.nil, hk _ _ _ _ h.hbb h.blk (by decide), h.hbb, h.lo_⟩

theorem SR.more (h : SR lo hi ab K w1 ps qs bb ad cap wr) (hb : Below wr.heap.size wr w') : SR lo hi ab K w1 ps qs bb ad cap w' := h.turn (h.sa.more hb) (Keep.below hb)

theorem SR.alloc (h : SR lo hi ab K w1 ps qs bb ad cap wr) (o : Obj) : SR lo hi ab K w1 ps qs bb ad cap (wr.alloc o) := h.more ((Below.refl _ _).alloc (Nat.le_refl _) _)

theorem SR.cells (h : SR lo hi ab K w1 ps qs bb ad cap wr) : wr.cell? ⟨bb, 0, none⟩ = some (.int .i64 (K : Int)) ∧ wr.cell? ⟨bb, 1, none⟩ = some (.slice ad qs.length cap) := blk2 h.blk

theorem SR.runs (h : SR lo hi ab K w1 ps qs bb ad cap wr) : wr.frozen? ⟨bb, 0, none⟩ = false ∧ wr.frozen? ⟨bb, 1, none⟩ = false := run2 h.blk

/-- A block of another type, from hi on, is turned: the Arena stays. -/
theorem SA.other (h : SA lo hi ab K w1 ps wr) {b : Nat} {cs : Array Value} {t : TypeId} {fr : Nat × Nat} (hb : wr.heap[b]? = some (.cells cs t fr)) (ht : t ≠ 70) (hi_ : hi ≤ b) (hT : Turned (fun k => k = b) wr w') : SA lo hi ab K w1 ps w' := by
  obtain ⟨ob, ha⟩ := h.arena
  have hp := ha.pos
  have htwo := h.two
  have hn := ha.apart hb ht hi_
  refine ⟨⟨ob, ha.of hT (fun j hj e => hn (e ▸ hj))⟩, h.env.turned hT (fun j hj => by omega), h.below.trans (hT.below (fun j hj => by omega) (by omega)), h.two⟩

/-- The variable is told anew. -/
theorem SR.put (h : SR lo hi ab K w1 ps qs bb ad cap wr) {ad' : Option Addr} {qs' : List (Int × Int)} {cap' : Nat} (hp : RP hi w1 wr ad' qs') (hn : ad' = none → cap' = 0)
    (hw : (wr.setCell ⟨bb, 0, none⟩ (.int .i64 (K : Int))).setCell ⟨bb, 1, none⟩ (.slice ad' qs'.length cap') = w') : SR lo hi ab K w1 ps qs' bb ad' cap' w' := by
  have hT : Turned (fun k => k = bb) wr w' := by
    rw [← hw]
    exact ((Turned.refl (fun k => k = bb) wr).setCell (p := ⟨bb, 0, none⟩) rfl _).setCell (p := ⟨bb, 1, none⟩) rfl _
  refine ⟨h.sa.other h.blk (by decide) h.hbb hT, hp.imp id (fun g => g.same (fun a ha => ?_)), hn, by rw [← hw]; exact set2_block h.blk _ _, h.hbb, h.lo_⟩
  obtain ⟨_, cs, fr, e⟩ := g.2 a ha
  refine hT.block _ (Array.getElem?_eq_some_iff.1 e).1 (fun e' => ?_)
  rw [e', h.blk] at e
  injection e with e
  injection e with _ e2
  exact absurd e2 (by decide)
end

end Go.Proofs.YtjkiagjgnfaknaaDoor

/- texts put together: DelTwr. -/
import Derived.Test.YtonknpdalemjkaaGreatDe00
import Derived.Test.YtonknpdalemjkaaGreatDe01
import Derived.Test.YtonknpdalemjkaaGreatDe02
import Derived.Test.YtonknpdalemjkaaGreatDe03
import Derived.Test.YtonknpdalemjkaaGreatDe04
import Derived.Test.YtonknpdalemjkaaGreatDe05
import Derived.Test.YtonknpdalemjkaaGreatDe06
import Derived.Test.YtonknpdalemjkaaGreatDe07
import Derived.Test.YtonknpdalemjkaaGreatDe08
import Derived.Test.YtonknpdalemjkaaGreatDe09
import Derived.Test.YtonknpdalemjkaaGreatDe10
import Derived.Test.YtonknpdalemjkaaGreatDe11
import Derived.Test.YtonknpdalemjkaaGreatDe12
import Derived.Test.YtonknpdalemjkaaGreatDe13
import Derived.Test.YtonknpdalemjkaaGreatDe14
import Derived.Test.YtonknpdalemjkaaGreatDe15
import Derived.Test.YtonknpdalemjkaaGreatDe16
import Derived.Test.YtonknpdalemjkaaGreatDe17
import Derived.Test.YtonknpdalemjkaaGreatDe18
import Derived.Test.YtonknpdalemjkaaGreatDe19
import Derived.Test.YtonknpdalemjkaaGreatDe20
import Derived.Test.YtonknpdalemjkaaGreatDe21
import Derived.Test.YtonknpdalemjkaaGreatDe22
import Derived.Test.YtonknpdalemjkaaGreatDe23
import Derived.Test.YtonknpdalemjkaaGreatDe24
import Derived.Test.YtonknpdalemjkaaGreatDn00
import Derived.Test.YtonknpdalemjkaaGreatDn01
import Derived.Test.YtonknpdalemjkaaGreatDn11
import Derived.Test.YtonknpdalemjkaaGreatDn23
open List (setIfInBounds_toArray set_cons_zero set_cons_succ take_succ_cons take_zero drop_succ_cons drop_zero)
namespace Go.Proofs.YtonknpdalemjkaaGreat
open Go Go.RowKit Go.ChangeShapes cl
theorem upd_self {α : Type} (f : Nat → α) (i : Nat) : upd f i (f i) = f := by
 funext j
 unfold upd
 split
 ·
  rename_i e; rw [e]
 ·
  rfl
def StoV (b i : Nat) (g : Nat → Value) (M : List Ent) (c : dm.Ctx) (d : Dot) (w : World) : Prop := ∃ a0 n0 c0 a1 n1 c1 a2 n2 c2 L' c', Box6 w b (upd (upd (upd g (i * 3) (.slice a0 n0 c0)) (i * 3 + 1) (.slice a1 n1 c1)) (i * 3 + 2) (.slice a2 n2 c2)) ∧ EntO 0 w (.slice a0 n0 c0) L' ∧ OwnC 0 w (.agg #[.slice a1 n1 c1, .slice a2 n2 c2]) c' ∧ L'.Perm M ∧ os.Up L' ∧ ∃ m, dm.Is c' (fun e => dm.Knows c e ∨ e = d) m
theorem StoV.on {b i : Nat} {g : Nat → Value} {M : List Ent} {c : dm.Ctx} {d : Dot} {w w' : World} (h : StoV b i g M c d w) (hb : Below w.heap.size w w') : StoV b i g M c d w' := by
 obtain ⟨a0, n0, c0, a1, n1, c1, a2, n2, c2, L', c', h1, h2, h3, h4⟩ := h
 exact ⟨a0, n0, c0, a1, n1, c1, a2, n2, c2, L', c', h1.on hb, h2.on hb, h3.on hb, h4⟩
theorem grown3 {w : World} {q : Nat} (i j k : Nat) (a b c : Value) : w.grownBy (((w.setCell ⟨q, i, none⟩ a).setCell ⟨q, j, none⟩ b).setCell ⟨q, k, none⟩ c) (some q) := grown_trans (grown_trans (set1_grown a) (set1_grown b)) (set1_grown c)
theorem box6_ktg {w w' : World} {q : Nat} {g : Nat → Value} (h : Box6 w q g) (hg : w.grownBy w' (some q)) : Kt 41 w w' := by
 obtain ⟨arr, h1, _⟩ := h
 exact Kt.of_grown hg h1
theorem MX.g {w w' : World} {q : Nat} (h : MX w) (hg : w.grownBy w' (some q)) (hs : 0 < w.heap.size) (hq : q ≠ 0) : MX w' := by
 obtain ⟨m, h⟩ := h
 refine ⟨m, ?_⟩
 have := hg.block 0 hs (fun e => hq (Option.some.inj e).symm)
 simp only [World.cell?, this] at h ⊢
 exact h
def TwoP (l : List (List Int)) (w : World) (e : Ending) (w' : World) : Prop :=
 (50 < l.length ∧ e = .returned (.tuple #[.agg #[.slice none 0 0, .slice none 0 0, .slice none 0 0, .slice none 0 0, .slice none 0 0, .slice none 0 0], .bool false]) ∧ Below w.heap.size w w') ∨
 (l.length ≤ 50 ∧ ∃ (g : Nat → Value) (s : TS), e = .returned (.tuple #[.agg #[g 0, g 1, g 2, g 3, g 4, g 5], .bool true]) ∧ PIn 0 w' g s ∧ TInv 50 s ∧ Below w.heap.size w w' ∧ RunR l l.length s)
set_option maxHeartbeats 12800000 in
set_option maxRecDepth 100000 in
theorem two_any (l : List (List Int)) (v : Value) (w : World) (h : KInts 4 w w.heap.size v l) (hm : MX w) :
  Calls Tryz.prog 23 #[v] w (TwoP l w) := by
 obtain ⟨n, hn⟩ : ∃ n, n = l.length := ⟨_, rfl⟩
 obtain ⟨ao, cap, rfl, hnm⟩ : ∃ ao cap, v = .slice ao n cap ∧ n ≤ 9223372036854775807 := by
  obtain ⟨ao, cap, e, _, h9⟩ := h.form
  unfold maxLen at h9
  exact ⟨ao, cap, by rw [hn]; exact e, by rw [hn]; exact h9⟩
 have HN := Lib.hid hn
 obtain ⟨b4, hb4⟩ : ∃ b, b = w.heap.size + 1 := ⟨_, rfl⟩
 obtain ⟨b5, hb5⟩ : ∃ b, b = w.heap.size + 1 + 1 := ⟨_, rfl⟩
 obtain ⟨WA, hWA⟩ : ∃ W, W = w.alloc (.cells #[.slice none 0 0, .slice none 0 0, .slice none 0 0, .slice none 0 0, .slice none 0 0, .slice none 0 0] 41) := ⟨_, rfl⟩
 obtain ⟨WB, hWB⟩ : ∃ W, W = WA.alloc (.cells #[.slice none 0 0, .slice none 0 0, .slice none 0 0, .slice none 0 0, .slice none 0 0, .slice none 0 0] 41) := ⟨_, rfl⟩
 obtain ⟨W3, hW3⟩ : ∃ W, W = WB.alloc (.cells #[.int .i64 0, .int .i64 0] 72) := ⟨_, rfl⟩
 have sA : WA.heap.size = w.heap.size + 1 := by rw [hWA]; simp
 have sB : WB.heap.size = w.heap.size + 2 := by rw [hWB]; simp [sA]
 have s3 : W3.heap.size = w.heap.size + 3 := by rw [hW3]; simp [sB]
 have bA : Below w.heap.size w WA := by rw [hWA]; exact below1
 have bB : Below WA.heap.size WA WB := by rw [hWB]; exact below1
 have bC : Below WB.heap.size WB W3 := by rw [hW3]; exact below1
 have b2 : Below WA.heap.size WA W3 := bB.trans (bC.mono bB.size)
 have b3 : Below w.heap.size w W3 := bA.trans (b2.mono bA.size)
 have x0 : W3.heap[w.heap.size]? = some (.cells #[.slice none 0 0, .slice none 0 0, .slice none 0 0, .slice none 0 0, .slice none 0 0, .slice none 0 0] 41 (0, 0)) := (b2.block _ (by omega)).trans (by rw [hWA]; exact heap_alloc_new w _)
 have x1 : W3.heap[b4]? = some (.cells #[.slice none 0 0, .slice none 0 0, .slice none 0 0, .slice none 0 0, .slice none 0 0, .slice none 0 0] 41 (0, 0)) := (bC.block _ (by omega)).trans (by rw [hWB, hb4, ← sA]; exact heap_alloc_new WA _)
 have x2 : W3.heap[b5]? = some (.cells #[.int .i64 0, .int .i64 0] 72 (0, 0)) := by rw [hW3, hb5, ← sA, show WA.heap.size + 1 = WB.heap.size by omega]; exact heap_alloc_new WB _
 subst hWA hWB
 have HW3 := Lib.hid hW3
 have X0 := Lib.hid x0
 have X1 := Lib.hid x1
 have X2 := Lib.hid x2
 have HB3 := Lib.hid b3
 have HK := Lib.hid h
 have HMX := Lib.hid (MX.next hm b3)
 have H4 := Lib.hid hb4
 have H5 := Lib.hid hb5
 have hs3 : W3.heap.size = w.heap.size + 3 := s3
 have HS3 := Lib.hid hs3
 clear h hm sA sB s3 hs3 bA bB bC b2 b3 hn
 by_cases h50 : 50 < n
 ·
  have hI : (50 : Int) < (n : Int) := by omega
  have i0 := boxc x1 0 _ rfl
  have i1 := boxc x1 1 _ rfl
  have i2 := boxc x1 2 _ rfl
  have i3 := boxc x1 3 _ rfl
  have i4 := boxc x1 4 _ rfl
  have i5 := boxc x1 5 _ rfl
  have hne : ¬ w.heap.size = w.heap.size + 1 := by omega
  have j0 := boxc x0 0 _ rfl
  have j1 := boxc x0 1 _ rfl
  have j2 := boxc x0 2 _ rfl
  have j3 := boxc x0 3 _ rfl
  have j4 := boxc x0 4 _ rfl
  have j5 := boxc x0 5 _ rfl
  have f0 := boxf x0 0
  have f1 := boxf x0 1
  have f2 := boxf x0 2
  have f3 := boxf x0 3
  have f4 := boxf x0 4
  have f5 := boxf x0 5
  rw [hb4] at i0 i1 i2 i3 i4 i5
  rw [hW3] at i0 i1 i2 i3 i4 i5 j0 j1 j2 j3 j4 j5 f0 f1 f2 f3 f4 f5
  have HR : Hid (TwoP l w (.returned (.tuple #[.agg #[.slice none 0 0, .slice none 0 0, .slice none 0 0, .slice none 0 0, .slice none 0 0, .slice none 0 0], .bool false])) W3) := Or.inl ⟨by rw [← HN.out]; exact h50, rfl, HB3.out⟩
  clear x0 x1 x2 hW3 hb4 hb5
  go_enter Tryz.func23, Tryz.ntmps23
  go_wp2_with fail
  rw [← HW3.out]
  have z0 := boxc X0.out 0 _ rfl
  have z1 := boxc X0.out 1 _ rfl
  have z2 := boxc X0.out 2 _ rfl
  have z3 := boxc X0.out 3 _ rfl
  have z4 := boxc X0.out 4 _ rfl
  have z5 := boxc X0.out 5 _ rfl
  exact bodyPost_ret (v := .tuple #[.agg #[.slice none 0 0, .slice none 0 0, .slice none 0 0, .slice none 0 0, .slice none 0 0, .slice none 0 0], .bool false]) (by simp [results, Tryz.results23, go_sem, z0, z1, z2, z3, z4, z5]) rfl HR.out
 ·
  have hn50 : n ≤ 50 := by omega
  have hI : ¬ (50 : Int) < (n : Int) := by omega
  have hbb : Box6 W3 b4 (fun _ => .slice none 0 0) := ⟨_, x1, rfl, fun j hj => by
   rcases (by omega : j = 0 ∨ j = 1 ∨ j = 2 ∨ j = 3 ∨ j = 4 ∨ j = 5) with rfl | rfl | rfl | rfl | rfl | rfl <;> rfl⟩
  have HBB := Lib.hid hbb
  have HB2 : Hid (Box2 W3 b5 TS.zero.made) := x2
  have HP0 : Hid (PIn 0 W3 (fun _ => .slice none 0 0) TS.zero) := ⟨fun _ _ => World.ownsRow_nil _ _ _ _, fun _ _ => ⟨_, _, _, _, rfl, World.ownsRow_nil _ _ _ _, World.ownsRow_nil _ _ _ _⟩⟩
  clear x0 x1 x2 hW3 hb4 hb5 hbb
  go_enter Tryz.func23, Tryz.ntmps23
  go_wp2_with fail
  rw [← HW3.out, ← H5.out, ← H4.out]
  go_loopw [21] (fun i wr => ∃ (k : Nat) (g : Nat → Value) (s : TS), i = .int .i64 k ∧ k ≤ n ∧ Hid (TInv k s) ∧ Hid (Box6 wr b4 g) ∧ Hid (Box2 wr b5 s.made) ∧ Hid (PIn 0 wr g s) ∧ Hid (Below (w.heap.size + 1) W3 wr) ∧ Hid (RunR l k s)) (fun i _ => n - (intOf i).toNat)
  case atStart => exact ⟨0, _, TS.zero, rfl, by omega, tinv_zero 0, HBB.out, HB2.out, HP0.out, Below.refl _ _, runR_zero l⟩
  case round =>
   obtain ⟨k, g, s, rfl, hk, HV, HG, HM, HP, HB, HQ⟩ := hrel
   have hzr : W3.heap.size ≤ wr.heap.size := HB.out.size
   by_cases hlt : k < n
   ·
    have hkI : (k : Int) < (n : Int) := by omega
    obtain ⟨bb, off, rfl, hbB, hq, hlen, _⟩ := KInts.get HK.out HN.out hlt
    obtain ⟨oK, hoK⟩ : ∃ x, x = (l.getD k []).getD 0 0 := ⟨_, rfl⟩
    obtain ⟨oW, hoW⟩ : ∃ x, x = (l.getD k []).getD 1 0 := ⟨_, rfl⟩
    obtain ⟨oA, hoA⟩ : ∃ x, x = (l.getD k []).getD 2 0 := ⟨_, rfl⟩
    obtain ⟨oB, hoB⟩ : ∃ x, x = (l.getD k []).getD 3 0 := ⟨_, rfl⟩
    have hbW : bb < w.heap.size + 1 := by omega
    have HBf := Lib.hid (HB3.out.trans (HB.out.mono (Nat.le_succ _)))
    have q0 := (HBf.out.cell (p := ⟨bb, off + k * 4, none⟩) hbB).trans (hq 0 (by omega))
    have q1 := (HBf.out.cell (p := ⟨bb, off + k * 4 + 1, none⟩) hbB).trans (hq 1 (by omega))
    have q2 := (HBf.out.cell (p := ⟨bb, off + k * 4 + 2, none⟩) hbB).trans (hq 2 (by omega))
    have q3 := (HBf.out.cell (p := ⟨bb, off + k * 4 + 3, none⟩) hbB).trans (hq 3 (by omega))
    rw [← hoK] at q0
    rw [← hoW] at q1
    rw [← hoA] at q2
    rw [← hoB] at q3
    have HOK := Lib.hid hoK
    have HOA := Lib.hid hoA
    have HOB := Lib.hid hoB
    have HWW : Hid (who (l.getD k []) = (IntKind.u64.wrap oW).tmod 2) := by show _ = _; rw [hoW]; rfl
    clear hq hlen hoK hoW hoA hoB hbB
    obtain ⟨i, hi0, hi2⟩ := u64_rem oW 2 (by decide)
    have hie : (IntKind.u64.wrap oW).tmod 2 = (i : Int) := hi0
    obtain ⟨J, hJ0, hJ4⟩ := u64_rem oA 4 (by decide)
    have hJe : (IntKind.u64.wrap oA).tmod 4 = (J : Int) := hJ0
    obtain ⟨tk, ht0, ht1⟩ := u64_rem oB 1000 (by decide)
    have hte : (IntKind.u64.wrap oB).tmod 1000 = (tk : Int) := ht0
    have hii : IntKind.i64.wrap (i : Int) = (i : Int) := IntWalk.i64_in _ (by omega)
    have hti : IntKind.i64.wrap (tk : Int) = (tk : Int) := IntWalk.i64_in _ (by omega)
    have hi2i : (i : Int) < 2 := by omega
    have hi0i : 0 ≤ (i : Int) := by omega
    clear hi0 hJ0 ht0
    obtain ⟨b7, hb7⟩ : ∃ b, b = wr.heap.size := ⟨_, rfl⟩
    obtain ⟨w1, hw1⟩ : ∃ W, W = wr.alloc (.cells #[.int .i64 oK, .int .i64 oW, .int .i64 oA, .int .i64 oB] 59) := ⟨_, rfl⟩
    have hb1 : Below wr.heap.size wr w1 := by rw [hw1]; exact below1
    have x7 : w1.heap[b7]? = some (.cells #[.int .i64 oK, .int .i64 oW, .int .i64 oA, .int .i64 oB] 59 (0, 0)) := by rw [hw1, hb7]; exact heap_alloc_new wr _
    have HB1 := Lib.hid hb1
    have X7 := Lib.hid x7
    have HE7 := Lib.hid hb7
    have HW1 := Lib.hid hw1
    have HJ := Lib.hid hJ4
    have HNM : Hid (∀ W, Calls Tryz.prog 50 #[] W fun e w' => ∃ b, e = .returned (.slice (some ⟨b, 0, none⟩) 4 4) ∧ Strs w' w'.heap.size (.slice (some ⟨b, 0, none⟩) 4 4) NM ∧ Below W.heap.size W w') := names_any
    have XO : Hid (∀ ww, Below w1.heap.size w1 ww → ww.cell? ⟨b7, 0, none⟩ = some (.int .i64 oK) ∧ ww.cell? ⟨b7, 1, none⟩ = some (.int .i64 oW) ∧ ww.cell? ⟨b7, 2, none⟩ = some (.int .i64 oA) ∧ ww.cell? ⟨b7, 3, none⟩ = some (.int .i64 oB)) := fun ww hw => by
     have y := (hw.block _ (lt_of_block X7.out)).trans X7.out
     exact ⟨boxc y 0 _ rfl, boxc y 1 _ rfl, boxc y 2 _ rfl, boxc y 3 _ rfl⟩
    obtain ⟨y0, y1, y2, y3⟩ := XO.out w1 (Below.refl _ _)
    rw [hw1, hb7] at y0 y1 y2 y3
    clear hb7 hw1 hb1 x7 hJ4
    go_wp2_with fail
    rw [← HW1.out, ← HE7.out]
    refine wp_flow 7 (fun _ => 1000) (fun ww => RowKit.Below w1.heap.size w1 ww) (fun _ w w' => (fun (w w' : World) => RowKit.Below w.heap.size w w') w w') (fun kF vF wF => match kF with | 0 => (∃ b, vF = .slice (some ⟨b, 0, none⟩) 4 4 ∧ Strs wF wF.heap.size (.slice (some ⟨b, 0, none⟩) 4 4) NM) | 1 => (vF = .pointer (some ⟨b7, 2, none⟩)) | 2 => (vF = .int .i64 oA) | 3 => (vF = .int .u64 (IntKind.u64.wrap oA)) | 4 => (vF = .int .u64 (J : Int)) | 5 => (∃ b, vF = .pointer (some ⟨b, J, none⟩) ∧ b < wF.heap.size ∧ wF.cell? ⟨b, J, none⟩ = some (.string (nam J))) | 6 => (vF = .string (nam J)) | _ => True) (fun _ _ _ _ => True) (by kernel_rfl) (by kernel_rfl) ?_ ?_ ?_ ?_ ?_
    ·
     exact (Below.refl _ _).drew
    ·
     intro iF wF1 wF2 hR hT; exact hR.trans (hT.mono hR.size)
    ·
     intro kF hkF iF hiF hne hdd hanc hdan vF wF1 wF2 h hT
     rcases (by omega : kF = 0 ∨ kF = 1 ∨ kF = 2 ∨ kF = 3 ∨ kF = 4 ∨ kF = 5 ∨ kF = 6) with rfl | rfl | rfl | rfl | rfl | rfl | rfl
     ·
      have h : (∃ b, vF = .slice (some ⟨b, 0, none⟩) 4 4 ∧ Strs wF1 wF1.heap.size (.slice (some ⟨b, 0, none⟩) 4 4) NM) := h
      show (∃ b, vF = .slice (some ⟨b, 0, none⟩) 4 4 ∧ Strs wF2 wF2.heap.size (.slice (some ⟨b, 0, none⟩) 4 4) NM)
      have hT : (fun (w w' : World) => RowKit.Below w.heap.size w w') wF1 wF2 := hT
      simp only at hT
      obtain ⟨b, e, h1⟩ := h
      exact ⟨b, e, Cells.next h1 hT⟩
     iterate 4 exact h
     ·
      have h : (∃ b, vF = .pointer (some ⟨b, J, none⟩) ∧ b < wF1.heap.size ∧ wF1.cell? ⟨b, J, none⟩ = some (.string (nam J))) := h
      show (∃ b, vF = .pointer (some ⟨b, J, none⟩) ∧ b < wF2.heap.size ∧ wF2.cell? ⟨b, J, none⟩ = some (.string (nam J)))
      have hT : (fun (w w' : World) => RowKit.Below w.heap.size w w') wF1 wF2 := hT
      simp only at hT
      obtain ⟨b, e, h1, h2⟩ := h
      exact ⟨b, e, Nat.lt_of_lt_of_le h1 hT.size, (hT.cell (p := ⟨b, J, none⟩) h1).trans h2⟩
     ·
      exact h
    ·
     generalize hAF : fillOf _ _ _ = AF
     replace hAF := fun x => congrFun hAF x
     simp only [take_succ_cons, take_zero, fillOf, Act.put, setIfInBounds_toArray, set_cons_zero, set_cons_succ, Nat.reduceAdd, Nat.zero_add] at hAF
     refine .cons ?_ (.cons ?_ (.cons ?_ (.cons ?_ (.cons ?_ (.cons ?_ (.cons ?_ (.nil)))))))
     all_goals
      intro xF w2 hR hd K hK
      first | simp only [← hAF, Act.put, setIfInBounds_toArray, set_cons_zero, set_cons_succ] at hK ⊢ | simp only [← hAF, Act.put] at hK ⊢
      clear hAF
      try simp only [Nat.zero_add, Nat.reduceAdd] at hK ⊢
     ·
      clear hd
      rw [if_pos (by rfl)]
      go_simp
      (go_at_call 50; (with_reducible refine (HNM.out _).mono ?_); rintro e wK ⟨b, rfl, hs, hbK⟩)
      try go_wp2_with fail
      exact hK.out _ _ (hbK) (⟨_, rfl, hs⟩) (fun _ _ _ => ⟨trivial, trivial⟩)
     ·
      clear hd
      rw [if_pos (by rfl)]
      go_simp
      exact hK.out _ _ (Below.refl _ _) (rfl) (fun _ _ _ => ⟨trivial, trivial⟩)
     ·
      have dd1 := hd 1 (by kernel_rfl)
      clear hd
      try generalize xF 1 = yy1 at *
      obtain rfl := dd1
      obtain ⟨x0, x1, x2, x3⟩ := XO.out _ hR
      rw [if_pos (by rfl)]
      go_simp
      exact hK.out _ _ (Below.refl _ _) (rfl) (fun _ _ _ => ⟨trivial, trivial⟩)
     ·
      have dd2 := hd 2 (by kernel_rfl)
      clear hd
      try generalize xF 2 = yy2 at *
      obtain rfl := dd2
      rw [if_pos (by rfl)]
      go_simp
      exact hK.out _ _ (Below.refl _ _) (rfl) (fun _ _ _ => ⟨trivial, trivial⟩)
     ·
      have dd3 := hd 3 (by kernel_rfl)
      clear hd
      try generalize xF 3 = yy3 at *
      obtain rfl := dd3
      rw [if_pos (by rfl)]
      go_simp
      exact hK.out _ _ (Below.refl _ _) (rfl) (fun _ _ _ => ⟨trivial, trivial⟩)
     ·
      have dd0 := hd 0 (by kernel_rfl)
      have dd4 := hd 4 (by kernel_rfl)
      clear hd
      try generalize xF 0 = yy0 at *
      try generalize xF 4 = yy4 at *
      obtain ⟨bN, rfl, hsN⟩ := dd0
      obtain rfl := dd4
      have hj4 := HJ.out
      have hj4i : (J : Int) < 4 := by omega
      have hj0 : 0 ≤ (J : Int) := by omega
      rw [if_pos (by rfl)]
      go_simp
      exact hK.out _ _ (Below.refl _ _) (⟨_, rfl, names_lt hsN, names_cell hsN J HJ.out⟩) (fun _ _ _ => ⟨trivial, trivial⟩)
     ·
      have dd5 := hd 5 (by kernel_rfl)
      clear hd
      try generalize xF 5 = yy5 at *
      obtain ⟨bJ, rfl, hJl, hJc⟩ := dd5
      rw [if_pos (by rfl)]
      go_simp
      exact hK.out _ _ (Below.refl _ _) (rfl) (fun _ _ _ => ⟨trivial, trivial⟩)
    intro xF w2 hR hF hP
    clear hP
    have dd0 := hF 0 (by omega) (by decide)
    have dd1 := hF 1 (by omega) (by decide)
    have dd2 := hF 2 (by omega) (by decide)
    have dd3 := hF 3 (by omega) (by decide)
    have dd4 := hF 4 (by omega) (by decide)
    have dd5 := hF 5 (by omega) (by decide)
    have dd6 := hF 6 (by omega) (by decide)
    clear hF
    simp only [take_succ_cons, take_zero, drop_succ_cons, drop_zero, fillOf, Act.put, setIfInBounds_toArray, set_cons_zero, set_cons_succ, Nat.reduceAdd, Nat.zero_add]
    try generalize xF 0 = yy0 at *
    try generalize xF 1 = yy1 at *
    try generalize xF 2 = yy2 at *
    try generalize xF 3 = yy3 at *
    try generalize xF 4 = yy4 at *
    try generalize xF 5 = yy5 at *
    try generalize xF 6 = yy6 at *
    clear xF
    obtain ⟨bN, rfl, hsN⟩ := dd0
    obtain rfl := dd1
    obtain rfl := dd2
    obtain rfl := dd3
    obtain rfl := dd4
    obtain ⟨bJ, rfl, hJl, hJc⟩ := dd5
    obtain rfl := dd6
    have hRE := Lib.hid hR
    clear hR
    obtain ⟨x0, x1, x2, x3⟩ := XO.out w2 hRE.out
    have HB12 := Lib.hid (HB1.out.trans (hRE.out.mono HB1.out.size))
    have HBr : Hid (Below (w.heap.size + 1) W3 w2) := HB.out.trans (HB12.out.mono (by have := HS3.out; omega))
    have HG2 := Lib.hid (HG.out.on HB12.out)
    have HM2 := Lib.hid (HM.out.on HB12.out)
    have HP2 := Lib.hid (HP.out.on HB12.out)
    have HMX2 : Hid (MX w2) := MX.b HMX.out HBr.out (Nat.succ_pos _)
    obtain ⟨mi, hmi⟩ : ∃ m, m = s.made i := ⟨_, rfl⟩
    have hmk : mi ≤ 50 := by
     have := HV.out.made_le hi2
     omega
    have HMI := Lib.hid hmi
    obtain ⟨ae, ce, hge⟩ : ∃ a c, g (i * 3) = .slice a (s.l i).length c := own_slice (HP2.out.ent i hi2)
    obtain ⟨ne, hne⟩ : ∃ n, n = (s.l i).length := ⟨_, rfl⟩
    rw [← hne] at hge
    obtain ⟨av, nv, cv, ac, nc, cc, hgc⟩ := (HP2.out.ctx i hi2).form
    simp only [Value.agg.injEq, Array.mk.injEq, List.cons.injEq, and_true] at hgc
    have HGE := Lib.hid hge
    have HGC := Lib.hid hgc
    have XS : Hid (∀ ww, Below w2.heap.size w2 ww → ww.cell? ⟨b4, i * 3, none⟩ = some (.slice ae ne ce) ∧ ww.cell? ⟨b4, i * 3 + 1, none⟩ = some (.slice av nv cv) ∧ ww.cell? ⟨b4, i * 3 + 2, none⟩ = some (.slice ac nc cc)) := fun ww hw => by
     have bx := HG2.out.on hw
     have k0 := bx.cell (j := i * 3) (by omega)
     have k1 := bx.cell (j := i * 3 + 1) (by omega)
     have k2 := bx.cell (j := i * 3 + 2) (by omega)
     rw [HGE.out] at k0
     rw [HGC.out.1] at k1
     rw [HGC.out.2] at k2
     exact ⟨k0, k1, k2⟩
    have HSE : Hid (SetE 0 (s.l i) (s.c i) (.agg #[.slice ae ne ce, .slice av nv cv, .slice ac nc cc]) w2) := by
     have h1 := HP2.out.ent i hi2
     have h2 := HP2.out.ctx i hi2
     rw [HGE.out] at h1
     rw [HGC.out.1, HGC.out.2] at h2
     exact ⟨_, _, _, _, _, _, _, _, _, rfl, h1, h2⟩
    clear hge hgc hmi hne hRE y0 y1 y2 y3 q0 q1 q2 q3 hzr HB HG HM HP
    by_cases h1 : oK = 1
    ·
     subst h1
     have hmk' : (mi : Int) ≤ 50 := by omega
     have hwr : IntKind.i64.wrap ((mi : Int) + 1) = (mi : Int) + 1 := IntWalk.i64_in _ (by omega)
     obtain ⟨z, hz⟩ : ∃ z, z = decide (goneOf (fun x => decide (x.s = nam J)) (s.l i) = []) := ⟨_, rfl⟩
     have HCAL : Hid (∀ W, Below w2.heap.size w2 W → Calls Tryz.prog 51 #[.agg #[.slice ae ne ce, .slice av nv cv, .slice ac nc cc], .string (nam J), .agg #[.int .i64 (i : Int), .int .i64 ((mi : Int) + 1)]] W fun e w' => ∃ v', e = .returned v' ∧ RemV z (s.l i) (s.c i) (staysOf (fun x => decide (x.s = nam J)) (s.l i)) (s.nd i) v' w' ∧ Below W.heap.size W w') := fun W hW => by
      have hc := rem_v (s.l i) (s.c i) (s.nd i) (nam J) _ W ((setE_kept _ _ _).on HSE.out hW) (HV.out.set i hi2) (HV.out.nd_valid hi2 (by omega)) (HV.out.fresh hi2) (by have := HV.out.len hi2; omega) (by have := HV.out.cloud hi2; omega) (MX.next HMX2.out hW)
      rw [← hz] at hc
      have ev : (.agg #[.int .i64 (s.nd i).1, .int .i64 (s.nd i).2] : Value) = .agg #[.int .i64 (i : Int), .int .i64 ((mi : Int) + 1)] := by rw [HMI.out]; rfl
      rw [ev] at hc
      exact hc
     have HZ := Lib.hid hz
     clear hz
     go_wp2_with fail
     refine wp_flowH 18 (fun kF => match kF with | 12 => 16 | 13 => 17 | 14 => 16 | 15 => 17 | _ => 1000) (fun ww => RowKit.Below w2.heap.size w2 ww) (fun i w w' => if i = 17 then (fun (w w' : World) => Kt 29 w w' ∧ ∃ g, w.grownBy w' (some g) ∧ w2.heap.size ≤ g) w w' else if i = 16 then (fun (w w' : World) => Kt 27 w w' ∧ ∃ g, w.grownBy w' (some g) ∧ w2.heap.size ≤ g) w w' else (fun (w w' : World) => RowKit.Below w.heap.size w w') w w') (fun sF wF => match sF with  | _ => True) (fun kF vF wF => match kF with | 0 => (vF = .int .i64 (i : Int)) | 1 => (vF = .pointer (some ⟨b4, i * 3, none⟩)) | 2 => (vF = .agg #[.slice ae ne ce, .slice av nv cv, .slice ac nc cc]) | 3 => (vF = .string (nam J)) | 4 => (vF = .int .i64 (i : Int)) | 5 => (vF = .int .i64 (i : Int)) | 6 => (vF = .pointer (some ⟨b5, i, none⟩)) | 7 => (vF = .int .i64 (mi : Int)) | 8 => (vF = .int .i64 ((mi : Int) + 1)) | 9 => (vF = .agg #[.int .i64 (i : Int), .int .i64 ((mi : Int) + 1)]) | 10 => (RemV z (s.l i) (s.c i) (staysOf (fun x => decide (x.s = nam J)) (s.l i)) (s.nd i) vF wF) | 11 => (RemV z (s.l i) (s.c i) (staysOf (fun x => decide (x.s = nam J)) (s.l i)) (s.nd i) vF wF) | 12 => (SetZ z (s.l i) (s.c i) (staysOf (fun x => decide (x.s = nam J)) (s.l i)) (s.nd i) vF wF) | 13 => (DltZ z vF) | 14 => (∃ g, vF = .pointer (some ⟨g, 0, none⟩) ∧ wF.heap[g]? = some (.cells #[.slice none 0 0, .slice none 0 0, .slice none 0 0] 27 (0, 0)) ∧ w2.heap.size ≤ g) | 15 => (∃ g, vF = .pointer (some ⟨g, 0, none⟩) ∧ wF.heap[g]? = some (.cells #[.slice none 0 0, .slice none 0 0, .slice none 0 0, .slice none 0 0] 29 (0, 0)) ∧ w2.heap.size ≤ g) | 16 => (True) | 17 => (True) | _ => True) (fun _ _ _ _ => True) (fun kF jF vF uF wF => if kF = 16 ∧ jF = 14 then (BoxZ z (s.l i) (s.c i) (staysOf (fun x => decide (x.s = nam J)) (s.l i)) (s.nd i) w2.heap.size uF wF) else if kF = 17 ∧ jF = 15 then (BoxY z w2.heap.size uF wF) else True) (by kernel_rfl) (by kernel_rfl) ?_ ?_ ?_ ?_ ?_ ?_ ?_ ?_
     ·
      exact (Below.refl _ _).drew
     ·
      intro sF hsF
      rcases (by omega : sF = 0 ∨ sF = 1 ∨ sF = 2 ∨ sF = 3 ∨ sF = 4 ∨ sF = 5 ∨ sF = 6 ∨ sF = 7 ∨ sF = 8 ∨ sF = 9 ∨ sF = 10 ∨ sF = 11 ∨ sF = 12 ∨ sF = 13 ∨ sF = 14 ∨ sF = 15 ∨ sF = 16 ∨ sF = 17) with rfl | rfl | rfl | rfl | rfl | rfl | rfl | rfl | rfl | rfl | rfl | rfl | rfl | rfl | rfl | rfl | rfl | rfl
      iterate 18 exact trivial
     ·
      intro iF wF1 wF2 hR hT
      have hT : (fun i w w' => if i = 17 then (fun (w w' : World) => Kt 29 w w' ∧ ∃ g, w.grownBy w' (some g) ∧ w2.heap.size ≤ g) w w' else if i = 16 then (fun (w w' : World) => Kt 27 w w' ∧ ∃ g, w.grownBy w' (some g) ∧ w2.heap.size ≤ g) w w' else (fun (w w' : World) => RowKit.Below w.heap.size w w') w w') iF wF1 wF2 := hT
      simp only at hT
      by_cases hi17 : iF = 17
      ·
       rw [if_pos hi17] at hT; (obtain ⟨_, g, hg, hl⟩ := hT; exact hR.grown hg hR.size (fun j hj => by cases hj; exact hl))
      rw [if_neg hi17] at hT
      by_cases hi16 : iF = 16
      ·
       rw [if_pos hi16] at hT; (obtain ⟨_, g, hg, hl⟩ := hT; exact hR.grown hg hR.size (fun j hj => by cases hj; exact hl))
      rw [if_neg hi16] at hT
      exact hR.trans (hT.mono hR.size)
     ·
      intro sF hsF iF hiF hne hanc wF1 wF2 hRF hgF hT
      rcases (by omega : sF = 0 ∨ sF = 1 ∨ sF = 2 ∨ sF = 3 ∨ sF = 4 ∨ sF = 5 ∨ sF = 6 ∨ sF = 7 ∨ sF = 8 ∨ sF = 9 ∨ sF = 10 ∨ sF = 11 ∨ sF = 12 ∨ sF = 13 ∨ sF = 14 ∨ sF = 15 ∨ sF = 16 ∨ sF = 17) with rfl | rfl | rfl | rfl | rfl | rfl | rfl | rfl | rfl | rfl | rfl | rfl | rfl | rfl | rfl | rfl | rfl | rfl
      iterate 18 exact trivial
     ·
      intro iF hiF jF hjF kF hkF hne hanc uF vF wF1 wF2 hp hT
      by_cases hij : iF = 16 ∧ jF = 14
      ·
       rw [if_pos hij] at hp ⊢
       obtain ⟨rfl, rfl⟩ := hij
       have hT : (fun i w w' => if i = 17 then (fun (w w' : World) => Kt 29 w w' ∧ ∃ g, w.grownBy w' (some g) ∧ w2.heap.size ≤ g) w w' else if i = 16 then (fun (w w' : World) => Kt 27 w w' ∧ ∃ g, w.grownBy w' (some g) ∧ w2.heap.size ≤ g) w w' else (fun (w w' : World) => RowKit.Below w.heap.size w w') w w') kF wF1 wF2 := hT
       simp only at hT
       by_cases hi17 : kF = 17
       ·
        rw [if_pos hi17] at hT
        exact hp.kt hT.1 (by decide) (by decide) (by decide)
       rw [if_neg hi17] at hT
       by_cases hi16 : kF = 16
       ·
        exact absurd hi16 hne
       rw [if_neg hi16] at hT
       exact hp.on hT
      have hij0 := hij
      clear hij
      by_cases hij : iF = 17 ∧ jF = 15
      ·
       rw [if_neg (fun hh => by obtain ⟨h1, h2⟩ := hh; obtain ⟨h3, h4⟩ := hij; omega)] at hp ⊢; rw [if_pos hij] at hp ⊢
       obtain ⟨rfl, rfl⟩ := hij
       have hT : (fun i w w' => if i = 17 then (fun (w w' : World) => Kt 29 w w' ∧ ∃ g, w.grownBy w' (some g) ∧ w2.heap.size ≤ g) w w' else if i = 16 then (fun (w w' : World) => Kt 27 w w' ∧ ∃ g, w.grownBy w' (some g) ∧ w2.heap.size ≤ g) w w' else (fun (w w' : World) => RowKit.Below w.heap.size w w') w w') kF wF1 wF2 := hT
       simp only at hT
       by_cases hi17 : kF = 17
       ·
        exact absurd hi17 hne
       rw [if_neg hi17] at hT
       by_cases hi16 : kF = 16
       ·
        rw [if_pos hi16] at hT
        exact hp.kt hT.1 (by decide)
       rw [if_neg hi16] at hT
       exact hp.on hT
      have hij1 := hij
      clear hij
      ·
       rw [if_neg hij0]; rw [if_neg hij1]; trivial
     ·
      intro kF hkF iF hiF hne hdd hanc hdan vF wF1 wF2 h hT
      rcases (by omega : kF = 0 ∨ kF = 1 ∨ kF = 2 ∨ kF = 3 ∨ kF = 4 ∨ kF = 5 ∨ kF = 6 ∨ kF = 7 ∨ kF = 8 ∨ kF = 9 ∨ kF = 10 ∨ kF = 11 ∨ kF = 12 ∨ kF = 13 ∨ kF = 14 ∨ kF = 15 ∨ kF = 16 ∨ kF = 17) with rfl | rfl | rfl | rfl | rfl | rfl | rfl | rfl | rfl | rfl | rfl | rfl | rfl | rfl | rfl | rfl | rfl | rfl
      iterate 10 exact h
      ·
       have h : (RemV z (s.l i) (s.c i) (staysOf (fun x => decide (x.s = nam J)) (s.l i)) (s.nd i) vF wF1) := h
       show (RemV z (s.l i) (s.c i) (staysOf (fun x => decide (x.s = nam J)) (s.l i)) (s.nd i) vF wF2)
       have hT : (fun i w w' => if i = 17 then (fun (w w' : World) => Kt 29 w w' ∧ ∃ g, w.grownBy w' (some g) ∧ w2.heap.size ≤ g) w w' else if i = 16 then (fun (w w' : World) => Kt 27 w w' ∧ ∃ g, w.grownBy w' (some g) ∧ w2.heap.size ≤ g) w w' else (fun (w w' : World) => RowKit.Below w.heap.size w w') w w') iF wF1 wF2 := hT
       simp only at hT
       by_cases hi17 : iF = 17
       ·
        rw [if_pos hi17] at hT
        exact (remV_kept _ _ _ _ _).kt h hT.1 (by decide) (by decide)
       rw [if_neg hi17] at hT
       by_cases hi16 : iF = 16
       ·
        rw [if_pos hi16] at hT
        exact (remV_kept _ _ _ _ _).kt h hT.1 (by decide) (by decide)
       rw [if_neg hi16] at hT
       exact (remV_kept _ _ _ _ _).on h hT
      ·
       have h : (RemV z (s.l i) (s.c i) (staysOf (fun x => decide (x.s = nam J)) (s.l i)) (s.nd i) vF wF1) := h
       show (RemV z (s.l i) (s.c i) (staysOf (fun x => decide (x.s = nam J)) (s.l i)) (s.nd i) vF wF2)
       have hT : (fun i w w' => if i = 17 then (fun (w w' : World) => Kt 29 w w' ∧ ∃ g, w.grownBy w' (some g) ∧ w2.heap.size ≤ g) w w' else if i = 16 then (fun (w w' : World) => Kt 27 w w' ∧ ∃ g, w.grownBy w' (some g) ∧ w2.heap.size ≤ g) w w' else (fun (w w' : World) => RowKit.Below w.heap.size w w') w w') iF wF1 wF2 := hT
       simp only at hT
       by_cases hi17 : iF = 17
       ·
        rw [if_pos hi17] at hT
        exact (remV_kept _ _ _ _ _).kt h hT.1 (by decide) (by decide)
       rw [if_neg hi17] at hT
       by_cases hi16 : iF = 16
       ·
        rw [if_pos hi16] at hT
        exact (remV_kept _ _ _ _ _).kt h hT.1 (by decide) (by decide)
       rw [if_neg hi16] at hT
       exact (remV_kept _ _ _ _ _).on h hT
      ·
       have h : (SetZ z (s.l i) (s.c i) (staysOf (fun x => decide (x.s = nam J)) (s.l i)) (s.nd i) vF wF1) := h
       show (SetZ z (s.l i) (s.c i) (staysOf (fun x => decide (x.s = nam J)) (s.l i)) (s.nd i) vF wF2)
       have hT : (fun i w w' => if i = 17 then (fun (w w' : World) => Kt 29 w w' ∧ ∃ g, w.grownBy w' (some g) ∧ w2.heap.size ≤ g) w w' else if i = 16 then (fun (w w' : World) => Kt 27 w w' ∧ ∃ g, w.grownBy w' (some g) ∧ w2.heap.size ≤ g) w w' else (fun (w w' : World) => RowKit.Below w.heap.size w w') w w') iF wF1 wF2 := hT
       simp only at hT
       by_cases hi17 : iF = 17
       ·
        subst hi17; exact (anc_no hdan (by kernel_rfl)).elim
       rw [if_neg hi17] at hT
       by_cases hi16 : iF = 16
       ·
        exact absurd hi16.symm hdd
       rw [if_neg hi16] at hT
       exact (setZ_kept _ _ _ _ _).on h hT
      ·
       exact h
      ·
       have h : (∃ g, vF = .pointer (some ⟨g, 0, none⟩) ∧ wF1.heap[g]? = some (.cells #[.slice none 0 0, .slice none 0 0, .slice none 0 0] 27 (0, 0)) ∧ w2.heap.size ≤ g) := h
       show (∃ g, vF = .pointer (some ⟨g, 0, none⟩) ∧ wF2.heap[g]? = some (.cells #[.slice none 0 0, .slice none 0 0, .slice none 0 0] 27 (0, 0)) ∧ w2.heap.size ≤ g)
       have hT : (fun i w w' => if i = 17 then (fun (w w' : World) => Kt 29 w w' ∧ ∃ g, w.grownBy w' (some g) ∧ w2.heap.size ≤ g) w w' else if i = 16 then (fun (w w' : World) => Kt 27 w w' ∧ ∃ g, w.grownBy w' (some g) ∧ w2.heap.size ≤ g) w w' else (fun (w w' : World) => RowKit.Below w.heap.size w w') w w') iF wF1 wF2 := hT
       simp only at hT
       by_cases hi17 : iF = 17
       ·
        subst hi17; exact (anc_no hdan (by kernel_rfl)).elim
       rw [if_neg hi17] at hT
       by_cases hi16 : iF = 16
       ·
        exact absurd hi16.symm hdd
       rw [if_neg hi16] at hT
       obtain ⟨g, e, h1, h2⟩ := h
       exact ⟨g, e, (hT.block _ (lt_of_block h1)).trans h1, h2⟩
      ·
       have h : (∃ g, vF = .pointer (some ⟨g, 0, none⟩) ∧ wF1.heap[g]? = some (.cells #[.slice none 0 0, .slice none 0 0, .slice none 0 0, .slice none 0 0] 29 (0, 0)) ∧ w2.heap.size ≤ g) := h
       show (∃ g, vF = .pointer (some ⟨g, 0, none⟩) ∧ wF2.heap[g]? = some (.cells #[.slice none 0 0, .slice none 0 0, .slice none 0 0, .slice none 0 0] 29 (0, 0)) ∧ w2.heap.size ≤ g)
       have hT : (fun i w w' => if i = 17 then (fun (w w' : World) => Kt 29 w w' ∧ ∃ g, w.grownBy w' (some g) ∧ w2.heap.size ≤ g) w w' else if i = 16 then (fun (w w' : World) => Kt 27 w w' ∧ ∃ g, w.grownBy w' (some g) ∧ w2.heap.size ≤ g) w w' else (fun (w w' : World) => RowKit.Below w.heap.size w w') w w') iF wF1 wF2 := hT
       simp only at hT
       by_cases hi17 : iF = 17
       ·
        exact absurd hi17.symm hdd
       rw [if_neg hi17] at hT
       by_cases hi16 : iF = 16
       ·
        rw [if_pos hi16] at hT
        obtain ⟨g, e, h1, h2⟩ := h
        exact ⟨g, e, blk_kt h1 hT.1 (by decide), h2⟩
       rw [if_neg hi16] at hT
       obtain ⟨g, e, h1, h2⟩ := h
       exact ⟨g, e, (hT.block _ (lt_of_block h1)).trans h1, h2⟩
      iterate 2 exact h
     ·
      generalize hAF : fillOf _ _ _ = AF
      replace hAF := fun x => congrFun hAF x
      simp only [take_succ_cons, take_zero, fillOf, Act.put, setIfInBounds_toArray, set_cons_zero, set_cons_succ, Nat.reduceAdd, Nat.zero_add] at hAF
      refine .cons ?_ (.cons ?_ (.cons ?_ (.cons ?_ (.cons ?_ (.cons ?_ (.cons ?_ (.cons ?_ (.cons ?_ (.cons ?_ (.cons ?_ (.cons ?_ (.cons ?_ (.cons ?_ (.cons ?_ (.cons ?_ (.cons ?_ (.cons ?_ (.nil))))))))))))))))))
      all_goals
       intro xF w5 hR hg hd K hK
       first | simp only [← hAF, Act.put, setIfInBounds_toArray, set_cons_zero, set_cons_succ] at hK ⊢ | simp only [← hAF, Act.put] at hK ⊢
       clear hAF
       try simp only [Nat.zero_add, Nat.reduceAdd] at hK ⊢
      ·
       clear hg hd
       rw [if_pos (by rfl)]
       go_simp
       exact hK.out _ _ (Below.refl _ _) (rfl) (fun _ _ _ => ⟨trivial, trivial⟩) (fun jF _ => by (show (if _ ∧ jF = 14 then _ else (if _ ∧ jF = 15 then _ else (True)))); rw [if_neg (fun hh => absurd hh.1 (by decide))]; rw [if_neg (fun hh => absurd hh.1 (by decide))]; trivial)
      ·
       clear hg
       have dd0 := hd 0 (by kernel_rfl)
       clear hd
       try generalize xF 0 = yy0 at *
       obtain rfl := dd0
       rw [if_pos (by rfl)]
       go_simp
       exact hK.out _ _ (Below.refl _ _) (rfl) (fun _ _ _ => ⟨trivial, trivial⟩) (fun jF _ => by (show (if _ ∧ jF = 14 then _ else (if _ ∧ jF = 15 then _ else (True)))); rw [if_neg (fun hh => absurd hh.1 (by decide))]; rw [if_neg (fun hh => absurd hh.1 (by decide))]; trivial)
      ·
       clear hg
       have dd1 := hd 1 (by kernel_rfl)
       clear hd
       try generalize xF 1 = yy1 at *
       obtain rfl := dd1
       obtain ⟨e0, e1, e2⟩ := XS.out _ hR
       rw [if_pos (by rfl)]
       go_simp
       exact hK.out _ _ (Below.refl _ _) (rfl) (fun _ _ _ => ⟨trivial, trivial⟩) (fun jF _ => by (show (if _ ∧ jF = 14 then _ else (if _ ∧ jF = 15 then _ else (True)))); rw [if_neg (fun hh => absurd hh.1 (by decide))]; rw [if_neg (fun hh => absurd hh.1 (by decide))]; trivial)
      ·
       clear hg hd
       rw [if_pos (by rfl)]
       go_simp
       exact hK.out _ _ (Below.refl _ _) (rfl) (fun _ _ _ => ⟨trivial, trivial⟩) (fun jF _ => by (show (if _ ∧ jF = 14 then _ else (if _ ∧ jF = 15 then _ else (True)))); rw [if_neg (fun hh => absurd hh.1 (by decide))]; rw [if_neg (fun hh => absurd hh.1 (by decide))]; trivial)
      ·
       clear hg hd
       rw [if_pos (by rfl)]
       go_simp
       exact hK.out _ _ (Below.refl _ _) (rfl) (fun _ _ _ => ⟨trivial, trivial⟩) (fun jF _ => by (show (if _ ∧ jF = 14 then _ else (if _ ∧ jF = 15 then _ else (True)))); rw [if_neg (fun hh => absurd hh.1 (by decide))]; rw [if_neg (fun hh => absurd hh.1 (by decide))]; trivial)
      ·
       clear hg hd
       rw [if_pos (by rfl)]
       go_simp
       exact hK.out _ _ (Below.refl _ _) (rfl) (fun _ _ _ => ⟨trivial, trivial⟩) (fun jF _ => by (show (if _ ∧ jF = 14 then _ else (if _ ∧ jF = 15 then _ else (True)))); rw [if_neg (fun hh => absurd hh.1 (by decide))]; rw [if_neg (fun hh => absurd hh.1 (by decide))]; trivial)
      ·
       clear hg
       have dd5 := hd 5 (by kernel_rfl)
       clear hd
       try generalize xF 5 = yy5 at *
       obtain rfl := dd5
       rw [if_pos (by rfl)]
       go_simp
       exact hK.out _ _ (Below.refl _ _) (rfl) (fun _ _ _ => ⟨trivial, trivial⟩) (fun jF _ => by (show (if _ ∧ jF = 14 then _ else (if _ ∧ jF = 15 then _ else (True)))); rw [if_neg (fun hh => absurd hh.1 (by decide))]; rw [if_neg (fun hh => absurd hh.1 (by decide))]; trivial)
      ·
       clear hg
       have dd6 := hd 6 (by kernel_rfl)
       clear hd
       try generalize xF 6 = yy6 at *
       obtain rfl := dd6
       have k9 := (HM2.out.on hR).cell hi2
       rw [← HMI.out] at k9
       rw [if_pos (by rfl)]
       go_simp
       exact hK.out _ _ (Below.refl _ _) (rfl) (fun _ _ _ => ⟨trivial, trivial⟩) (fun jF _ => by (show (if _ ∧ jF = 14 then _ else (if _ ∧ jF = 15 then _ else (True)))); rw [if_neg (fun hh => absurd hh.1 (by decide))]; rw [if_neg (fun hh => absurd hh.1 (by decide))]; trivial)
      ·
       clear hg
       have dd7 := hd 7 (by kernel_rfl)
       clear hd
       try generalize xF 7 = yy7 at *
       obtain rfl := dd7
       rw [if_pos (by rfl)]
       go_simp
       exact hK.out _ _ (Below.refl _ _) (rfl) (fun _ _ _ => ⟨trivial, trivial⟩) (fun jF _ => by (show (if _ ∧ jF = 14 then _ else (if _ ∧ jF = 15 then _ else (True)))); rw [if_neg (fun hh => absurd hh.1 (by decide))]; rw [if_neg (fun hh => absurd hh.1 (by decide))]; trivial)
      ·
       clear hg
       have dd4 := hd 4 (by kernel_rfl)
       have dd8 := hd 8 (by kernel_rfl)
       clear hd
       try generalize xF 4 = yy4 at *
       try generalize xF 8 = yy8 at *
       obtain rfl := dd4
       obtain rfl := dd8
       rw [if_pos (by rfl)]
       go_simp
       exact hK.out _ _ (Below.refl _ _) (rfl) (fun _ _ _ => ⟨trivial, trivial⟩) (fun jF _ => by (show (if _ ∧ jF = 14 then _ else (if _ ∧ jF = 15 then _ else (True)))); rw [if_neg (fun hh => absurd hh.1 (by decide))]; rw [if_neg (fun hh => absurd hh.1 (by decide))]; trivial)
      ·
       clear hg
       have dd2 := hd 2 (by kernel_rfl)
       have dd3 := hd 3 (by kernel_rfl)
       have dd9 := hd 9 (by kernel_rfl)
       clear hd
       try generalize xF 2 = yy2 at *
       try generalize xF 3 = yy3 at *
       try generalize xF 9 = yy9 at *
       obtain rfl := dd2
       obtain rfl := dd3
       obtain rfl := dd9
       rw [if_pos (by rfl)]
       go_simp
       (go_at_call 51; (with_reducible refine (HCAL.out _ hR).mono ?_); rintro e wK ⟨vK, rfl, hpK, hbK⟩)
       try go_wp2_with fail
       exact hK.out _ _ (hbK) (hpK) (fun _ _ _ => ⟨trivial, trivial⟩) (fun jF _ => by (show (if _ ∧ jF = 14 then _ else (if _ ∧ jF = 15 then _ else (True)))); rw [if_neg (fun hh => absurd hh.1 (by decide))]; rw [if_neg (fun hh => absurd hh.1 (by decide))]; trivial)
      ·
       clear hg
       have dd10 : (RemV z (s.l i) (s.c i) (staysOf (fun x => decide (x.s = nam J)) (s.l i)) (s.nd i) (xF 10) w5) := hd 10 (by kernel_rfl)
       clear hd
       try generalize xF 10 = yy10 at *
       have hp10 := dd10
       rw [if_pos (by rfl)]
       go_simp
       exact hK.out _ _ (Below.refl _ _) (hp10) (fun _ _ _ => ⟨trivial, trivial⟩) (fun jF _ => by (show (if _ ∧ jF = 14 then _ else (if _ ∧ jF = 15 then _ else (True)))); rw [if_neg (fun hh => absurd hh.1 (by decide))]; rw [if_neg (fun hh => absurd hh.1 (by decide))]; trivial)
      ·
       clear hg
       have dd11 : (RemV z (s.l i) (s.c i) (staysOf (fun x => decide (x.s = nam J)) (s.l i)) (s.nd i) (xF 11) w5) := hd 11 (by kernel_rfl)
       clear hd
       try generalize xF 11 = yy11 at *
       have hp11 := dd11
       obtain ⟨s0, s1, rfl, hs0, hs1⟩ := hp11
       rw [if_pos (by rfl)]
       go_simp
       exact hK.out _ _ (Below.refl _ _) (hs0) (fun _ _ _ => ⟨trivial, trivial⟩) (fun jF _ => by (show (if _ ∧ jF = 14 then _ else (if _ ∧ jF = 15 then _ else (True)))); rw [if_neg (fun hh => absurd hh.1 (by decide))]; rw [if_neg (fun hh => absurd hh.1 (by decide))]; trivial)
      ·
       clear hg
       have dd11 : (RemV z (s.l i) (s.c i) (staysOf (fun x => decide (x.s = nam J)) (s.l i)) (s.nd i) (xF 11) w5) := hd 11 (by kernel_rfl)
       clear hd
       try generalize xF 11 = yy11 at *
       have hp11 := dd11
       obtain ⟨s0, s1, rfl, hs0, hs1⟩ := hp11
       rw [if_pos (by rfl)]
       go_simp
       exact hK.out _ _ (Below.refl _ _) (hs1) (fun _ _ _ => ⟨trivial, trivial⟩) (fun jF _ => by (show (if _ ∧ jF = 14 then _ else (if _ ∧ jF = 15 then _ else (True)))); rw [if_neg (fun hh => absurd hh.1 (by decide))]; rw [if_neg (fun hh => absurd hh.1 (by decide))]; trivial)
      ·
       clear hg hd
       rw [if_pos (by rfl)]
       go_simp
       exact hK.out _ _ (below1) (⟨_, rfl, heap_alloc_new _ _, hR.size⟩) (fun _ _ _ => ⟨trivial, trivial⟩) (fun jF _ => by (show (if _ ∧ jF = 14 then _ else (if _ ∧ jF = 15 then _ else (True)))); rw [if_neg (fun hh => absurd hh.1 (by decide))]; rw [if_neg (fun hh => absurd hh.1 (by decide))]; trivial)
      ·
       clear hg hd
       rw [if_pos (by rfl)]
       go_simp
       exact hK.out _ _ (below1) (⟨_, rfl, heap_alloc_new _ _, hR.size⟩) (fun _ _ _ => ⟨trivial, trivial⟩) (fun jF _ => by (show (if _ ∧ jF = 14 then _ else (if _ ∧ jF = 15 then _ else (True)))); rw [if_neg (fun hh => absurd hh.1 (by decide))]; rw [if_neg (fun hh => absurd hh.1 (by decide))]; trivial)
      ·
       clear hg
       have dd12 : (SetZ z (s.l i) (s.c i) (staysOf (fun x => decide (x.s = nam J)) (s.l i)) (s.nd i) (xF 12) w5) := hd 12 (by kernel_rfl)
       have dd14 := hd 14 (by kernel_rfl)
       clear hd
       try generalize xF 12 = yy12 at *
       have hp12 := dd12
       obtain ⟨g14, he14, hg14, hl14⟩ := dd14
       simp only [he14] at hK ⊢
       have k0 := boxc hg14 0 _ rfl
       have k1 := boxc hg14 1 _ rfl
       have k2 := boxc hg14 2 _ rfl
       have q0 := boxf hg14 0
       have q1 := boxf hg14 1
       have q2 := boxf hg14 2
       have HG14 := Lib.hid hg14
       obtain ⟨L0, cc0, ⟨a0, n0, c0, a1, n1, c1, a2, n2, c2, rfl, hE0, hC0⟩, hQ0⟩ := hp12
       rw [if_pos (by rfl)]
       go_simp
       exact hK.out undef _ (⟨set3_kt HG14.out _ _ _, _, set3_grown _, hl14⟩) (trivial) (fun _ _ _ => ⟨trivial, trivial⟩) (fun jF _ => by (show (if _ ∧ jF = 14 then _ else (if _ ∧ jF = 15 then _ else True))); split; (rename_i hh; obtain ⟨_, rfl⟩ := hh; exact ⟨_, _, _, _, _, _, _, _, _, _, L0, cc0, he14, hl14, heap_setCell_same _ g14 2 _ _ _ (heap_setCell_same _ g14 1 _ _ _ (heap_setCell_same _ g14 0 _ _ _ HG14.out)), hE0.kt (set3_kt HG14.out _ _ _) (by decide), hC0.kt (set3_kt HG14.out _ _ _) (by decide), hQ0⟩); (rw [if_neg (fun hh => absurd hh.1 (by decide))]; trivial))
      ·
       clear hg
       have dd13 : (DltZ z (xF 13)) := hd 13 (by kernel_rfl)
       have dd15 := hd 15 (by kernel_rfl)
       clear hd
       try generalize xF 13 = yy13 at *
       have hp13 := dd13
       obtain ⟨g15, he15, hg15, hl15⟩ := dd15
       simp only [he15] at hK ⊢
       have k0 := boxc hg15 0 _ rfl
       have k1 := boxc hg15 1 _ rfl
       have k2 := boxc hg15 2 _ rfl
       have k3 := boxc hg15 3 _ rfl
       have q0 := boxf hg15 0
       have q1 := boxf hg15 1
       have q2 := boxf hg15 2
       have q3 := boxf hg15 3
       have HG15 := Lib.hid hg15
       obtain ⟨a3, n3, c3, a4, n4, c4, a5, n5, c5, a6, n6, c6, rfl, hR0⟩ := hp13
       rw [if_pos (by rfl)]
       go_simp
       exact hK.out undef _ (⟨set4_kt HG15.out _ _ _ _, _, set4_grown _, hl15⟩) (trivial) (fun _ _ _ => ⟨trivial, trivial⟩) (fun jF _ => by (show (if _ ∧ jF = 14 then _ else (if _ ∧ jF = 15 then _ else True))); rw [if_neg (fun hh => absurd hh.1 (by decide))]; split; (rename_i hh; obtain ⟨_, rfl⟩ := hh; exact ⟨_, _, _, _, _, _, _, _, _, _, _, _, _, he15, hl15, heap_setCell_same _ g15 3 _ _ _ (heap_setCell_same _ g15 2 _ _ _ (heap_setCell_same _ g15 1 _ _ _ (heap_setCell_same _ g15 0 _ _ _ HG15.out))), hR0⟩); trivial)
     intro xF w5 hR hF hP hW2
     have hpw0 := hW2 16 (by omega) 14 (by decide)
     rw [if_pos ⟨rfl, rfl⟩] at hpw0
     have hpw1 := hW2 17 (by omega) 15 (by decide)
     rw [if_neg (by intro hh; omega)] at hpw1
     rw [if_pos ⟨rfl, rfl⟩] at hpw1
     clear hW2
     clear hP
     have dd0 := hF 0 (by omega) (by decide)
     have dd1 := hF 1 (by omega) (by decide)
     have dd2 := hF 2 (by omega) (by decide)
     have dd3 := hF 3 (by omega) (by decide)
     have dd4 := hF 4 (by omega) (by decide)
     have dd5 := hF 5 (by omega) (by decide)
     have dd6 := hF 6 (by omega) (by decide)
     have dd7 := hF 7 (by omega) (by decide)
     have dd8 := hF 8 (by omega) (by decide)
     have dd9 := hF 9 (by omega) (by decide)
     have dd10 : (RemV z (s.l i) (s.c i) (staysOf (fun x => decide (x.s = nam J)) (s.l i)) (s.nd i) (xF 10) w5) := hF 10 (by omega) (by decide)
     have dd11 : (RemV z (s.l i) (s.c i) (staysOf (fun x => decide (x.s = nam J)) (s.l i)) (s.nd i) (xF 11) w5) := hF 11 (by omega) (by decide)
     have dd16 : (True) := hF 16 (by omega) (by decide)
     have dd17 : (True) := hF 17 (by omega) (by decide)
     clear hF
     simp only [take_succ_cons, take_zero, drop_succ_cons, drop_zero, fillOf, Act.put, setIfInBounds_toArray, set_cons_zero, set_cons_succ, Nat.reduceAdd, Nat.zero_add]
     try generalize xF 0 = yy0 at *
     try generalize xF 1 = yy1 at *
     try generalize xF 2 = yy2 at *
     try generalize xF 3 = yy3 at *
     try generalize xF 4 = yy4 at *
     try generalize xF 5 = yy5 at *
     try generalize xF 6 = yy6 at *
     try generalize xF 7 = yy7 at *
     try generalize xF 8 = yy8 at *
     try generalize xF 9 = yy9 at *
     try generalize xF 10 = yy10 at *
     try generalize xF 11 = yy11 at *
     try generalize xF 12 = yy12 at *
     try generalize xF 13 = yy13 at *
     try generalize xF 14 = yy14 at *
     try generalize xF 15 = yy15 at *
     try generalize xF 16 = yy16 at *
     try generalize xF 17 = yy17 at *
     clear xF
     obtain rfl := dd0
     obtain rfl := dd1
     obtain rfl := dd2
     obtain rfl := dd3
     obtain rfl := dd4
     obtain rfl := dd5
     obtain rfl := dd6
     obtain rfl := dd7
     obtain rfl := dd8
     obtain rfl := dd9
     have hp10 := dd10
     have hp11 := dd11
     have _ := dd16
     have _ := dd17
     have hRE := Lib.hid hR
     clear hR
     obtain ⟨gA, a0, n0, c0, a1, n1, c1, a2, n2, c2, L', c', rfl, hzA, hgA, hE, hC, hQ⟩ := hpw0
     obtain ⟨gB, t0, u0, r0, t1, u1, r1, t2, u2, r2, t3, u3, r3, rfl, hzB, hgB, hRZ⟩ := hpw1
     have HB5 : Hid (Below (w.heap.size + 1) W3 w5) := HBr.out.trans (hRE.out.mono (Nat.le_trans (by have := HS3.out; omega) HBr.out.size))
     have hG5 := HG2.out.on hRE.out
     have hM5 := HM2.out.on hRE.out
     have hP5 := HP2.out.on hRE.out
     have hlb : w.heap.size + 1 ≤ b4 := by rw [H4.out]; exact Nat.le_refl _
     have hl5 : w.heap.size + 1 ≤ b5 := by rw [H5.out]; exact Nat.le_succ _
     have d2 := boxc hgB 2 _ rfl
     have d3 := boxc hgB 3 _ rfl
     cases z
     ·
      obtain ⟨v1, v2, v3⟩ : u2 + u3 ≠ 0 ∧ u2 ≤ 1000 ∧ u3 ≤ 1000 := hRZ
      obtain ⟨hpm, hup, m, hIs⟩ : L'.Perm (staysOf (fun x => decide (x.s = nam J)) (s.l i)) ∧ os.Up L' ∧ ∃ m, dm.Is c' (fun e => dm.Knows (s.c i) e ∨ e = s.nd i) m := hQ
      have hpos : (0 : Int) < (u2 : Int) + (u3 : Int) := by omega
      have c9 : w5.cell? ⟨b5, i, none⟩ = some (.int .i64 (mi : Int)) := by rw [HMI.out]; exact hM5.cell hi2
      have f9 : w5.frozen? ⟨b5, i, none⟩ = false := boxf hM5 i
      obtain ⟨w6, hw6⟩ : ∃ W, W = w5.setCell ⟨b5, i, none⟩ (.int .i64 ((mi : Int) + 1)) := ⟨_, rfl⟩
      have hk6 : Kt 72 w5 w6 := by rw [hw6]; exact Kt.set hM5 i _
      have hM6 : Box2 w6 b5 (upd s.made i (mi + 1)) := by
       rw [hw6, show (mi : Int) + 1 = ((mi + 1 : Nat) : Int) by omega]; exact hM5.set hi2 (mi + 1)
      have hG6 : Box6 w6 b4 g := by
       obtain ⟨arr, e1, e2⟩ := hG5
       exact ⟨arr, blk_kt e1 hk6 (by decide), e2⟩
      have hP6 := hP5.kt hk6 (by decide) (by decide)
      have hA6 := blk_kt hgA hk6 (by decide)
      have k0 := hG6.cell (j := i * 3) (by omega)
      have k1 := hG6.cell (j := i * 3 + 1) (by omega)
      have k2 := hG6.cell (j := i * 3 + 2) (by omega)
      have f0 := hG6.fro (i * 3)
      have f1 := hG6.fro (i * 3 + 1)
      have f2 := hG6.fro (i * 3 + 2)
      have e0 := boxc hA6 0 _ rfl
      have e1 := boxc hA6 1 _ rfl
      have e2 := boxc hA6 2 _ rfl
      obtain ⟨w7, hw7⟩ : ∃ W, W = ((w6.setCell ⟨b4, i * 3, none⟩ (.slice a0 n0 c0)).setCell ⟨b4, i * 3 + 1, none⟩ (.slice a1 n1 c1)).setCell ⟨b4, i * 3 + 2, none⟩ (.slice a2 n2 c2) := ⟨_, rfl⟩
      have hkt : Kt 41 w6 w7 := by rw [hw7]; exact kt3 hG6 _ _ _ _ _ _
      have HG' : Hid (Box6 w7 b4 (upd (upd (upd g (i * 3) (.slice a0 n0 c0)) (i * 3 + 1) (.slice a1 n1 c1)) (i * 3 + 2) (.slice a2 n2 c2))) := by
       show Box6 _ _ _
       rw [hw7]; exact ((hG6.set (by omega) _).set (by omega) _).set (by omega) _
      have HP' := Lib.hid ((hP6.kt hkt (by decide) (by decide)).put hi2 (s.made i + 1) ((hE.kt hk6 (by decide)).kt hkt (by decide)) ((hC.kt hk6 (by decide)).kt hkt (by decide)))
      obtain rfl : L' = staysOf (fun x => decide (x.s = nam J)) (s.l i) := up_ext hup ((HV.out.set i hi2).up.sublist List.filter_sublist) fun x => hpm.mem_iff
      have HV' := Lib.hid (tinv_drop (p := fun x => decide (x.s = nam J)) HV.out hi2 hIs)
      have HQ' := Lib.hid (runR_succ HQ.out (stepR_mk hi2 (HWW.out.trans hie) HOA.out hJe HOB.out hte HOK.out (stepK_one (J := J) (tk := tk) (Or.inr ⟨of_decide_eq_false HZ.out.symm, c', m, rfl, hIs⟩))))
      have HM' : Hid (Box2 w7 b5 (s.put i (staysOf (fun x => decide (x.s = nam J)) (s.l i)) c' (s.made i + 1)).made) := by
       show Box2 _ _ (upd s.made i (s.made i + 1))
       rw [← HMI.out]
       exact blk_kt hM6 hkt (by decide)
      have HB' : Hid (Below (w.heap.size + 1) W3 w7) := by
       show Below _ _ _
       rw [hw7, hw6]
       exact (((HB5.out.setCell hl5 _).setCell hlb _).setCell hlb _).setCell hlb _
      rw [hw6] at k0 k1 k2 f0 f1 f2 e0 e1 e2 hw7
      have HW7 := Lib.hid hw7
      clear hw6 hw7 hk6 hM6 hG6 hP6 hA6 hkt hpm hup hIs hE hC hG5 hM5 hP5 hlb hl5 hgA hgB hzA hzB hRE v1
      go_wp2_with fail
      rw [← HW7.out]
      go_roundw
      case rel => exact ⟨k + 1, _, _, by go_num, by omega, HV'.out, HG'.out, HM'.out, HP'.out, HB'.out, HQ'.out⟩
      case measure => simp [intOf]; omega
     ·
      have v1 : u2 + u3 = 0 := hRZ
      obtain ⟨hL, hc'⟩ : L' = s.l i ∧ c' = s.c i := hQ
      subst hL hc'
      obtain rfl : u2 = 0 := by omega
      obtain rfl : u3 = 0 := by omega
      have k0 := hG5.cell (j := i * 3) (by omega)
      have k1 := hG5.cell (j := i * 3 + 1) (by omega)
      have k2 := hG5.cell (j := i * 3 + 2) (by omega)
      have f0 := hG5.fro (i * 3)
      have f1 := hG5.fro (i * 3 + 1)
      have f2 := hG5.fro (i * 3 + 2)
      have e0 := boxc hgA 0 _ rfl
      have e1 := boxc hgA 1 _ rfl
      have e2 := boxc hgA 2 _ rfl
      obtain ⟨w7, hw7⟩ : ∃ W, W = ((w5.setCell ⟨b4, i * 3, none⟩ (.slice a0 n0 c0)).setCell ⟨b4, i * 3 + 1, none⟩ (.slice a1 n1 c1)).setCell ⟨b4, i * 3 + 2, none⟩ (.slice a2 n2 c2) := ⟨_, rfl⟩
      have hkt : Kt 41 w5 w7 := by rw [hw7]; exact kt3 hG5 _ _ _ _ _ _
      have HG' : Hid (Box6 w7 b4 (upd (upd (upd g (i * 3) (.slice a0 n0 c0)) (i * 3 + 1) (.slice a1 n1 c1)) (i * 3 + 2) (.slice a2 n2 c2))) := by
       show Box6 _ _ _
       rw [hw7]; exact ((hG5.set (by omega) _).set (by omega) _).set (by omega) _
      have es : s.put i (s.l i) (s.c i) (s.made i) = s := by
       unfold TS.put
       rw [upd_self, upd_self, upd_self]
      have HP' : Hid (PIn 0 w7 (upd (upd (upd g (i * 3) (.slice a0 n0 c0)) (i * 3 + 1) (.slice a1 n1 c1)) (i * 3 + 2) (.slice a2 n2 c2)) s) := by
       have := (hP5.kt hkt (by decide) (by decide)).put hi2 (s.made i) (hE.kt hkt (by decide)) (hC.kt hkt (by decide))
       rw [es] at this
       exact this
      have HV' := Lib.hid (HV.out.mono (Nat.le_succ k))
      have HQ' := Lib.hid (runR_succ HQ.out (stepR_mk hi2 (HWW.out.trans hie) HOA.out hJe HOB.out hte HOK.out (stepK_one (J := J) (tk := tk) (Or.inl ⟨of_decide_eq_true HZ.out.symm, rfl⟩))))
      have HM' : Hid (Box2 w7 b5 s.made) := blk_kt hM5 hkt (by decide)
      have HB' : Hid (Below (w.heap.size + 1) W3 w7) := by
       show Below _ _ _
       rw [hw7]
       exact ((HB5.out.setCell hlb _).setCell hlb _).setCell hlb _
      have HW7 := Lib.hid hw7
      clear hw7 hkt hE hC hG5 hM5 hP5 hlb hl5 hgA hgB hzA hzB hRE v1 es
      go_wp2_with fail
      rw [← HW7.out]
      go_roundw
      case rel => exact ⟨k + 1, _, _, by go_num, by omega, HV'.out, HG'.out, HM'.out, HP'.out, HB'.out, HQ'.out⟩
      case measure => simp [intOf]; omega
    ·
     by_cases h2 : oK = 2
     ·
      subst h2
      have hmk' : (mi : Int) ≤ 50 := by omega
      have hwr : IntKind.i64.wrap ((mi : Int) + 1) = (mi : Int) + 1 := IntWalk.i64_in _ (by omega)
      obtain ⟨z, hz⟩ : ∃ z, z = decide (goneOf (fun x => decide (x.t < (tk : Int))) (s.l i) = []) := ⟨_, rfl⟩
      have HCAL : Hid (∀ W, Below w2.heap.size w2 W → Calls Tryz.prog 52 #[.agg #[.slice ae ne ce, .slice av nv cv, .slice ac nc cc], .int .i64 (tk : Int), .agg #[.int .i64 (i : Int), .int .i64 ((mi : Int) + 1)]] W fun e w' => ∃ v', e = .returned v' ∧ RemV z (s.l i) (s.c i) (staysOf (fun x => decide (x.t < (tk : Int))) (s.l i)) (s.nd i) v' w' ∧ Below W.heap.size W w') := fun W hW => by
       have hc := exp_v (s.l i) (s.c i) (s.nd i) (tk : Int) _ W ((setE_kept _ _ _).on HSE.out hW) (HV.out.set i hi2) (HV.out.nd_valid hi2 (by omega)) (HV.out.fresh hi2) (by have := HV.out.len hi2; omega) (by have := HV.out.cloud hi2; omega) (MX.next HMX2.out hW)
       rw [← hz] at hc
       have ev : (.agg #[.int .i64 (s.nd i).1, .int .i64 (s.nd i).2] : Value) = .agg #[.int .i64 (i : Int), .int .i64 ((mi : Int) + 1)] := by rw [HMI.out]; rfl
       rw [ev] at hc
       exact hc
      have HZ := Lib.hid hz
      clear hz
      go_wp2_with fail
      refine wp_flowH 18 (fun kF => match kF with | 12 => 16 | 13 => 17 | 14 => 16 | 15 => 17 | _ => 1000) (fun ww => RowKit.Below w2.heap.size w2 ww) (fun i w w' => if i = 17 then (fun (w w' : World) => Kt 29 w w' ∧ ∃ g, w.grownBy w' (some g) ∧ w2.heap.size ≤ g) w w' else if i = 16 then (fun (w w' : World) => Kt 27 w w' ∧ ∃ g, w.grownBy w' (some g) ∧ w2.heap.size ≤ g) w w' else (fun (w w' : World) => RowKit.Below w.heap.size w w') w w') (fun sF wF => match sF with  | _ => True) (fun kF vF wF => match kF with | 0 => (vF = .int .i64 (i : Int)) | 1 => (vF = .pointer (some ⟨b4, i * 3, none⟩)) | 2 => (vF = .agg #[.slice ae ne ce, .slice av nv cv, .slice ac nc cc]) | 3 => (vF = .int .i64 (tk : Int)) | 4 => (vF = .int .i64 (i : Int)) | 5 => (vF = .int .i64 (i : Int)) | 6 => (vF = .pointer (some ⟨b5, i, none⟩)) | 7 => (vF = .int .i64 (mi : Int)) | 8 => (vF = .int .i64 ((mi : Int) + 1)) | 9 => (vF = .agg #[.int .i64 (i : Int), .int .i64 ((mi : Int) + 1)]) | 10 => (RemV z (s.l i) (s.c i) (staysOf (fun x => decide (x.t < (tk : Int))) (s.l i)) (s.nd i) vF wF) | 11 => (RemV z (s.l i) (s.c i) (staysOf (fun x => decide (x.t < (tk : Int))) (s.l i)) (s.nd i) vF wF) | 12 => (SetZ z (s.l i) (s.c i) (staysOf (fun x => decide (x.t < (tk : Int))) (s.l i)) (s.nd i) vF wF) | 13 => (DltZ z vF) | 14 => (∃ g, vF = .pointer (some ⟨g, 0, none⟩) ∧ wF.heap[g]? = some (.cells #[.slice none 0 0, .slice none 0 0, .slice none 0 0] 27 (0, 0)) ∧ w2.heap.size ≤ g) | 15 => (∃ g, vF = .pointer (some ⟨g, 0, none⟩) ∧ wF.heap[g]? = some (.cells #[.slice none 0 0, .slice none 0 0, .slice none 0 0, .slice none 0 0] 29 (0, 0)) ∧ w2.heap.size ≤ g) | 16 => (True) | 17 => (True) | _ => True) (fun _ _ _ _ => True) (fun kF jF vF uF wF => if kF = 16 ∧ jF = 14 then (BoxZ z (s.l i) (s.c i) (staysOf (fun x => decide (x.t < (tk : Int))) (s.l i)) (s.nd i) w2.heap.size uF wF) else if kF = 17 ∧ jF = 15 then (BoxY z w2.heap.size uF wF) else True) (by kernel_rfl) (by kernel_rfl) ?_ ?_ ?_ ?_ ?_ ?_ ?_ ?_
      ·
       exact (Below.refl _ _).drew
      ·
       intro sF hsF
       rcases (by omega : sF = 0 ∨ sF = 1 ∨ sF = 2 ∨ sF = 3 ∨ sF = 4 ∨ sF = 5 ∨ sF = 6 ∨ sF = 7 ∨ sF = 8 ∨ sF = 9 ∨ sF = 10 ∨ sF = 11 ∨ sF = 12 ∨ sF = 13 ∨ sF = 14 ∨ sF = 15 ∨ sF = 16 ∨ sF = 17) with rfl | rfl | rfl | rfl | rfl | rfl | rfl | rfl | rfl | rfl | rfl | rfl | rfl | rfl | rfl | rfl | rfl | rfl
       iterate 18 exact trivial
      ·
       intro iF wF1 wF2 hR hT
       have hT : (fun i w w' => if i = 17 then (fun (w w' : World) => Kt 29 w w' ∧ ∃ g, w.grownBy w' (some g) ∧ w2.heap.size ≤ g) w w' else if i = 16 then (fun (w w' : World) => Kt 27 w w' ∧ ∃ g, w.grownBy w' (some g) ∧ w2.heap.size ≤ g) w w' else (fun (w w' : World) => RowKit.Below w.heap.size w w') w w') iF wF1 wF2 := hT
       simp only at hT
       by_cases hi17 : iF = 17
       ·
        rw [if_pos hi17] at hT; (obtain ⟨_, g, hg, hl⟩ := hT; exact hR.grown hg hR.size (fun j hj => by cases hj; exact hl))
       rw [if_neg hi17] at hT
       by_cases hi16 : iF = 16
       ·
        rw [if_pos hi16] at hT; (obtain ⟨_, g, hg, hl⟩ := hT; exact hR.grown hg hR.size (fun j hj => by cases hj; exact hl))
       rw [if_neg hi16] at hT
       exact hR.trans (hT.mono hR.size)
      ·
       intro sF hsF iF hiF hne hanc wF1 wF2 hRF hgF hT
       rcases (by omega : sF = 0 ∨ sF = 1 ∨ sF = 2 ∨ sF = 3 ∨ sF = 4 ∨ sF = 5 ∨ sF = 6 ∨ sF = 7 ∨ sF = 8 ∨ sF = 9 ∨ sF = 10 ∨ sF = 11 ∨ sF = 12 ∨ sF = 13 ∨ sF = 14 ∨ sF = 15 ∨ sF = 16 ∨ sF = 17) with rfl | rfl | rfl | rfl | rfl | rfl | rfl | rfl | rfl | rfl | rfl | rfl | rfl | rfl | rfl | rfl | rfl | rfl
       iterate 18 exact trivial
      ·
       intro iF hiF jF hjF kF hkF hne hanc uF vF wF1 wF2 hp hT
       by_cases hij : iF = 16 ∧ jF = 14
       ·
        rw [if_pos hij] at hp ⊢
        obtain ⟨rfl, rfl⟩ := hij
        have hT : (fun i w w' => if i = 17 then (fun (w w' : World) => Kt 29 w w' ∧ ∃ g, w.grownBy w' (some g) ∧ w2.heap.size ≤ g) w w' else if i = 16 then (fun (w w' : World) => Kt 27 w w' ∧ ∃ g, w.grownBy w' (some g) ∧ w2.heap.size ≤ g) w w' else (fun (w w' : World) => RowKit.Below w.heap.size w w') w w') kF wF1 wF2 := hT
        simp only at hT
        by_cases hi17 : kF = 17
        ·
         rw [if_pos hi17] at hT
         exact hp.kt hT.1 (by decide) (by decide) (by decide)
        rw [if_neg hi17] at hT
        by_cases hi16 : kF = 16
        ·
         exact absurd hi16 hne
        rw [if_neg hi16] at hT
        exact hp.on hT
       have hij0 := hij
       clear hij
       by_cases hij : iF = 17 ∧ jF = 15
       ·
        rw [if_neg (fun hh => by obtain ⟨h1, h2⟩ := hh; obtain ⟨h3, h4⟩ := hij; omega)] at hp ⊢; rw [if_pos hij] at hp ⊢
        obtain ⟨rfl, rfl⟩ := hij
        have hT : (fun i w w' => if i = 17 then (fun (w w' : World) => Kt 29 w w' ∧ ∃ g, w.grownBy w' (some g) ∧ w2.heap.size ≤ g) w w' else if i = 16 then (fun (w w' : World) => Kt 27 w w' ∧ ∃ g, w.grownBy w' (some g) ∧ w2.heap.size ≤ g) w w' else (fun (w w' : World) => RowKit.Below w.heap.size w w') w w') kF wF1 wF2 := hT
        simp only at hT
        by_cases hi17 : kF = 17
        ·
         exact absurd hi17 hne
        rw [if_neg hi17] at hT
        by_cases hi16 : kF = 16
        ·
         rw [if_pos hi16] at hT
         exact hp.kt hT.1 (by decide)
        rw [if_neg hi16] at hT
        exact hp.on hT
       have hij1 := hij
       clear hij
       ·
        rw [if_neg hij0]; rw [if_neg hij1]; trivial
      ·
       intro kF hkF iF hiF hne hdd hanc hdan vF wF1 wF2 h hT
       rcases (by omega : kF = 0 ∨ kF = 1 ∨ kF = 2 ∨ kF = 3 ∨ kF = 4 ∨ kF = 5 ∨ kF = 6 ∨ kF = 7 ∨ kF = 8 ∨ kF = 9 ∨ kF = 10 ∨ kF = 11 ∨ kF = 12 ∨ kF = 13 ∨ kF = 14 ∨ kF = 15 ∨ kF = 16 ∨ kF = 17) with rfl | rfl | rfl | rfl | rfl | rfl | rfl | rfl | rfl | rfl | rfl | rfl | rfl | rfl | rfl | rfl | rfl | rfl
       iterate 10 exact h
       ·
        have h : (RemV z (s.l i) (s.c i) (staysOf (fun x => decide (x.t < (tk : Int))) (s.l i)) (s.nd i) vF wF1) := h
        show (RemV z (s.l i) (s.c i) (staysOf (fun x => decide (x.t < (tk : Int))) (s.l i)) (s.nd i) vF wF2)
        have hT : (fun i w w' => if i = 17 then (fun (w w' : World) => Kt 29 w w' ∧ ∃ g, w.grownBy w' (some g) ∧ w2.heap.size ≤ g) w w' else if i = 16 then (fun (w w' : World) => Kt 27 w w' ∧ ∃ g, w.grownBy w' (some g) ∧ w2.heap.size ≤ g) w w' else (fun (w w' : World) => RowKit.Below w.heap.size w w') w w') iF wF1 wF2 := hT
        simp only at hT
        by_cases hi17 : iF = 17
        ·
         rw [if_pos hi17] at hT
         exact (remV_kept _ _ _ _ _).kt h hT.1 (by decide) (by decide)
        rw [if_neg hi17] at hT
        by_cases hi16 : iF = 16
        ·
         rw [if_pos hi16] at hT
         exact (remV_kept _ _ _ _ _).kt h hT.1 (by decide) (by decide)
        rw [if_neg hi16] at hT
        exact (remV_kept _ _ _ _ _).on h hT
       ·
        have h : (RemV z (s.l i) (s.c i) (staysOf (fun x => decide (x.t < (tk : Int))) (s.l i)) (s.nd i) vF wF1) := h
        show (RemV z (s.l i) (s.c i) (staysOf (fun x => decide (x.t < (tk : Int))) (s.l i)) (s.nd i) vF wF2)
        have hT : (fun i w w' => if i = 17 then (fun (w w' : World) => Kt 29 w w' ∧ ∃ g, w.grownBy w' (some g) ∧ w2.heap.size ≤ g) w w' else if i = 16 then (fun (w w' : World) => Kt 27 w w' ∧ ∃ g, w.grownBy w' (some g) ∧ w2.heap.size ≤ g) w w' else (fun (w w' : World) => RowKit.Below w.heap.size w w') w w') iF wF1 wF2 := hT
        simp only at hT
        by_cases hi17 : iF = 17
        ·
         rw [if_pos hi17] at hT
         exact (remV_kept _ _ _ _ _).kt h hT.1 (by decide) (by decide)
        rw [if_neg hi17] at hT
        by_cases hi16 : iF = 16
        ·
         rw [if_pos hi16] at hT
         exact (remV_kept _ _ _ _ _).kt h hT.1 (by decide) (by decide)
        rw [if_neg hi16] at hT
        exact (remV_kept _ _ _ _ _).on h hT
       ·
        have h : (SetZ z (s.l i) (s.c i) (staysOf (fun x => decide (x.t < (tk : Int))) (s.l i)) (s.nd i) vF wF1) := h
        show (SetZ z (s.l i) (s.c i) (staysOf (fun x => decide (x.t < (tk : Int))) (s.l i)) (s.nd i) vF wF2)
        have hT : (fun i w w' => if i = 17 then (fun (w w' : World) => Kt 29 w w' ∧ ∃ g, w.grownBy w' (some g) ∧ w2.heap.size ≤ g) w w' else if i = 16 then (fun (w w' : World) => Kt 27 w w' ∧ ∃ g, w.grownBy w' (some g) ∧ w2.heap.size ≤ g) w w' else (fun (w w' : World) => RowKit.Below w.heap.size w w') w w') iF wF1 wF2 := hT
        simp only at hT
        by_cases hi17 : iF = 17
        ·
         subst hi17; exact (anc_no hdan (by kernel_rfl)).elim
        rw [if_neg hi17] at hT
        by_cases hi16 : iF = 16
        ·
         exact absurd hi16.symm hdd
        rw [if_neg hi16] at hT
        exact (setZ_kept _ _ _ _ _).on h hT
       ·
        exact h
       ·
        have h : (∃ g, vF = .pointer (some ⟨g, 0, none⟩) ∧ wF1.heap[g]? = some (.cells #[.slice none 0 0, .slice none 0 0, .slice none 0 0] 27 (0, 0)) ∧ w2.heap.size ≤ g) := h
        show (∃ g, vF = .pointer (some ⟨g, 0, none⟩) ∧ wF2.heap[g]? = some (.cells #[.slice none 0 0, .slice none 0 0, .slice none 0 0] 27 (0, 0)) ∧ w2.heap.size ≤ g)
        have hT : (fun i w w' => if i = 17 then (fun (w w' : World) => Kt 29 w w' ∧ ∃ g, w.grownBy w' (some g) ∧ w2.heap.size ≤ g) w w' else if i = 16 then (fun (w w' : World) => Kt 27 w w' ∧ ∃ g, w.grownBy w' (some g) ∧ w2.heap.size ≤ g) w w' else (fun (w w' : World) => RowKit.Below w.heap.size w w') w w') iF wF1 wF2 := hT
        simp only at hT
        by_cases hi17 : iF = 17
        ·
         subst hi17; exact (anc_no hdan (by kernel_rfl)).elim
        rw [if_neg hi17] at hT
        by_cases hi16 : iF = 16
        ·
         exact absurd hi16.symm hdd
        rw [if_neg hi16] at hT
        obtain ⟨g, e, h1, h2⟩ := h
        exact ⟨g, e, (hT.block _ (lt_of_block h1)).trans h1, h2⟩
       ·
        have h : (∃ g, vF = .pointer (some ⟨g, 0, none⟩) ∧ wF1.heap[g]? = some (.cells #[.slice none 0 0, .slice none 0 0, .slice none 0 0, .slice none 0 0] 29 (0, 0)) ∧ w2.heap.size ≤ g) := h
        show (∃ g, vF = .pointer (some ⟨g, 0, none⟩) ∧ wF2.heap[g]? = some (.cells #[.slice none 0 0, .slice none 0 0, .slice none 0 0, .slice none 0 0] 29 (0, 0)) ∧ w2.heap.size ≤ g)
        have hT : (fun i w w' => if i = 17 then (fun (w w' : World) => Kt 29 w w' ∧ ∃ g, w.grownBy w' (some g) ∧ w2.heap.size ≤ g) w w' else if i = 16 then (fun (w w' : World) => Kt 27 w w' ∧ ∃ g, w.grownBy w' (some g) ∧ w2.heap.size ≤ g) w w' else (fun (w w' : World) => RowKit.Below w.heap.size w w') w w') iF wF1 wF2 := hT
        simp only at hT
        by_cases hi17 : iF = 17
        ·
         exact absurd hi17.symm hdd
        rw [if_neg hi17] at hT
        by_cases hi16 : iF = 16
        ·
         rw [if_pos hi16] at hT
         obtain ⟨g, e, h1, h2⟩ := h
         exact ⟨g, e, blk_kt h1 hT.1 (by decide), h2⟩
        rw [if_neg hi16] at hT
        obtain ⟨g, e, h1, h2⟩ := h
        exact ⟨g, e, (hT.block _ (lt_of_block h1)).trans h1, h2⟩
       iterate 2 exact h
      ·
       generalize hAF : fillOf _ _ _ = AF
       replace hAF := fun x => congrFun hAF x
       simp only [take_succ_cons, take_zero, fillOf, Act.put, setIfInBounds_toArray, set_cons_zero, set_cons_succ, Nat.reduceAdd, Nat.zero_add] at hAF
       refine .cons ?_ (.cons ?_ (.cons ?_ (.cons ?_ (.cons ?_ (.cons ?_ (.cons ?_ (.cons ?_ (.cons ?_ (.cons ?_ (.cons ?_ (.cons ?_ (.cons ?_ (.cons ?_ (.cons ?_ (.cons ?_ (.cons ?_ (.cons ?_ (.nil))))))))))))))))))
       all_goals
        intro xF w5 hR hg hd K hK
        first | simp only [← hAF, Act.put, setIfInBounds_toArray, set_cons_zero, set_cons_succ] at hK ⊢ | simp only [← hAF, Act.put] at hK ⊢
        clear hAF
        try simp only [Nat.zero_add, Nat.reduceAdd] at hK ⊢
       ·
        clear hg hd
        rw [if_pos (by rfl)]
        go_simp
        exact hK.out _ _ (Below.refl _ _) (rfl) (fun _ _ _ => ⟨trivial, trivial⟩) (fun jF _ => by (show (if _ ∧ jF = 14 then _ else (if _ ∧ jF = 15 then _ else (True)))); rw [if_neg (fun hh => absurd hh.1 (by decide))]; rw [if_neg (fun hh => absurd hh.1 (by decide))]; trivial)
       ·
        clear hg
        have dd0 := hd 0 (by kernel_rfl)
        clear hd
        try generalize xF 0 = yy0 at *
        obtain rfl := dd0
        rw [if_pos (by rfl)]
        go_simp
        exact hK.out _ _ (Below.refl _ _) (rfl) (fun _ _ _ => ⟨trivial, trivial⟩) (fun jF _ => by (show (if _ ∧ jF = 14 then _ else (if _ ∧ jF = 15 then _ else (True)))); rw [if_neg (fun hh => absurd hh.1 (by decide))]; rw [if_neg (fun hh => absurd hh.1 (by decide))]; trivial)
       ·
        clear hg
        have dd1 := hd 1 (by kernel_rfl)
        clear hd
        try generalize xF 1 = yy1 at *
        obtain rfl := dd1
        obtain ⟨e0, e1, e2⟩ := XS.out _ hR
        rw [if_pos (by rfl)]
        go_simp
        exact hK.out _ _ (Below.refl _ _) (rfl) (fun _ _ _ => ⟨trivial, trivial⟩) (fun jF _ => by (show (if _ ∧ jF = 14 then _ else (if _ ∧ jF = 15 then _ else (True)))); rw [if_neg (fun hh => absurd hh.1 (by decide))]; rw [if_neg (fun hh => absurd hh.1 (by decide))]; trivial)
       ·
        clear hg hd
        rw [if_pos (by rfl)]
        go_simp
        exact hK.out _ _ (Below.refl _ _) (rfl) (fun _ _ _ => ⟨trivial, trivial⟩) (fun jF _ => by (show (if _ ∧ jF = 14 then _ else (if _ ∧ jF = 15 then _ else (True)))); rw [if_neg (fun hh => absurd hh.1 (by decide))]; rw [if_neg (fun hh => absurd hh.1 (by decide))]; trivial)
       ·
        clear hg hd
        rw [if_pos (by rfl)]
        go_simp
        exact hK.out _ _ (Below.refl _ _) (rfl) (fun _ _ _ => ⟨trivial, trivial⟩) (fun jF _ => by (show (if _ ∧ jF = 14 then _ else (if _ ∧ jF = 15 then _ else (True)))); rw [if_neg (fun hh => absurd hh.1 (by decide))]; rw [if_neg (fun hh => absurd hh.1 (by decide))]; trivial)
       ·
        clear hg hd
        rw [if_pos (by rfl)]
        go_simp
        exact hK.out _ _ (Below.refl _ _) (rfl) (fun _ _ _ => ⟨trivial, trivial⟩) (fun jF _ => by (show (if _ ∧ jF = 14 then _ else (if _ ∧ jF = 15 then _ else (True)))); rw [if_neg (fun hh => absurd hh.1 (by decide))]; rw [if_neg (fun hh => absurd hh.1 (by decide))]; trivial)
       ·
        clear hg
        have dd5 := hd 5 (by kernel_rfl)
        clear hd
        try generalize xF 5 = yy5 at *
        obtain rfl := dd5
        rw [if_pos (by rfl)]
        go_simp
        exact hK.out _ _ (Below.refl _ _) (rfl) (fun _ _ _ => ⟨trivial, trivial⟩) (fun jF _ => by (show (if _ ∧ jF = 14 then _ else (if _ ∧ jF = 15 then _ else (True)))); rw [if_neg (fun hh => absurd hh.1 (by decide))]; rw [if_neg (fun hh => absurd hh.1 (by decide))]; trivial)
       ·
        clear hg
        have dd6 := hd 6 (by kernel_rfl)
        clear hd
        try generalize xF 6 = yy6 at *
        obtain rfl := dd6
        have k9 := (HM2.out.on hR).cell hi2
        rw [← HMI.out] at k9
        rw [if_pos (by rfl)]
        go_simp
        exact hK.out _ _ (Below.refl _ _) (rfl) (fun _ _ _ => ⟨trivial, trivial⟩) (fun jF _ => by (show (if _ ∧ jF = 14 then _ else (if _ ∧ jF = 15 then _ else (True)))); rw [if_neg (fun hh => absurd hh.1 (by decide))]; rw [if_neg (fun hh => absurd hh.1 (by decide))]; trivial)
       ·
        clear hg
        have dd7 := hd 7 (by kernel_rfl)
        clear hd
        try generalize xF 7 = yy7 at *
        obtain rfl := dd7
        rw [if_pos (by rfl)]
        go_simp
        exact hK.out _ _ (Below.refl _ _) (rfl) (fun _ _ _ => ⟨trivial, trivial⟩) (fun jF _ => by (show (if _ ∧ jF = 14 then _ else (if _ ∧ jF = 15 then _ else (True)))); rw [if_neg (fun hh => absurd hh.1 (by decide))]; rw [if_neg (fun hh => absurd hh.1 (by decide))]; trivial)
       ·
        clear hg
        have dd4 := hd 4 (by kernel_rfl)
        have dd8 := hd 8 (by kernel_rfl)
        clear hd
        try generalize xF 4 = yy4 at *
        try generalize xF 8 = yy8 at *
        obtain rfl := dd4
        obtain rfl := dd8
        rw [if_pos (by rfl)]
        go_simp
        exact hK.out _ _ (Below.refl _ _) (rfl) (fun _ _ _ => ⟨trivial, trivial⟩) (fun jF _ => by (show (if _ ∧ jF = 14 then _ else (if _ ∧ jF = 15 then _ else (True)))); rw [if_neg (fun hh => absurd hh.1 (by decide))]; rw [if_neg (fun hh => absurd hh.1 (by decide))]; trivial)
       ·
        clear hg
        have dd2 := hd 2 (by kernel_rfl)
        have dd3 := hd 3 (by kernel_rfl)
        have dd9 := hd 9 (by kernel_rfl)
        clear hd
        try generalize xF 2 = yy2 at *
        try generalize xF 3 = yy3 at *
        try generalize xF 9 = yy9 at *
        obtain rfl := dd2
        obtain rfl := dd3
        obtain rfl := dd9
        rw [if_pos (by rfl)]
        go_simp
        (go_at_call 52; (with_reducible refine (HCAL.out _ hR).mono ?_); rintro e wK ⟨vK, rfl, hpK, hbK⟩)
        try go_wp2_with fail
        exact hK.out _ _ (hbK) (hpK) (fun _ _ _ => ⟨trivial, trivial⟩) (fun jF _ => by (show (if _ ∧ jF = 14 then _ else (if _ ∧ jF = 15 then _ else (True)))); rw [if_neg (fun hh => absurd hh.1 (by decide))]; rw [if_neg (fun hh => absurd hh.1 (by decide))]; trivial)
       ·
        clear hg
        have dd10 : (RemV z (s.l i) (s.c i) (staysOf (fun x => decide (x.t < (tk : Int))) (s.l i)) (s.nd i) (xF 10) w5) := hd 10 (by kernel_rfl)
        clear hd
        try generalize xF 10 = yy10 at *
        have hp10 := dd10
        rw [if_pos (by rfl)]
        go_simp
        exact hK.out _ _ (Below.refl _ _) (hp10) (fun _ _ _ => ⟨trivial, trivial⟩) (fun jF _ => by (show (if _ ∧ jF = 14 then _ else (if _ ∧ jF = 15 then _ else (True)))); rw [if_neg (fun hh => absurd hh.1 (by decide))]; rw [if_neg (fun hh => absurd hh.1 (by decide))]; trivial)
       ·
        clear hg
        have dd11 : (RemV z (s.l i) (s.c i) (staysOf (fun x => decide (x.t < (tk : Int))) (s.l i)) (s.nd i) (xF 11) w5) := hd 11 (by kernel_rfl)
        clear hd
        try generalize xF 11 = yy11 at *
        have hp11 := dd11
        obtain ⟨s0, s1, rfl, hs0, hs1⟩ := hp11
        rw [if_pos (by rfl)]
        go_simp
        exact hK.out _ _ (Below.refl _ _) (hs0) (fun _ _ _ => ⟨trivial, trivial⟩) (fun jF _ => by (show (if _ ∧ jF = 14 then _ else (if _ ∧ jF = 15 then _ else (True)))); rw [if_neg (fun hh => absurd hh.1 (by decide))]; rw [if_neg (fun hh => absurd hh.1 (by decide))]; trivial)
       ·
        clear hg
        have dd11 : (RemV z (s.l i) (s.c i) (staysOf (fun x => decide (x.t < (tk : Int))) (s.l i)) (s.nd i) (xF 11) w5) := hd 11 (by kernel_rfl)
        clear hd
        try generalize xF 11 = yy11 at *
        have hp11 := dd11
        obtain ⟨s0, s1, rfl, hs0, hs1⟩ := hp11
        rw [if_pos (by rfl)]
        go_simp
        exact hK.out _ _ (Below.refl _ _) (hs1) (fun _ _ _ => ⟨trivial, trivial⟩) (fun jF _ => by (show (if _ ∧ jF = 14 then _ else (if _ ∧ jF = 15 then _ else (True)))); rw [if_neg (fun hh => absurd hh.1 (by decide))]; rw [if_neg (fun hh => absurd hh.1 (by decide))]; trivial)
       ·
        clear hg hd
        rw [if_pos (by rfl)]
        go_simp
        exact hK.out _ _ (below1) (⟨_, rfl, heap_alloc_new _ _, hR.size⟩) (fun _ _ _ => ⟨trivial, trivial⟩) (fun jF _ => by (show (if _ ∧ jF = 14 then _ else (if _ ∧ jF = 15 then _ else (True)))); rw [if_neg (fun hh => absurd hh.1 (by decide))]; rw [if_neg (fun hh => absurd hh.1 (by decide))]; trivial)
       ·
        clear hg hd
        rw [if_pos (by rfl)]
        go_simp
        exact hK.out _ _ (below1) (⟨_, rfl, heap_alloc_new _ _, hR.size⟩) (fun _ _ _ => ⟨trivial, trivial⟩) (fun jF _ => by (show (if _ ∧ jF = 14 then _ else (if _ ∧ jF = 15 then _ else (True)))); rw [if_neg (fun hh => absurd hh.1 (by decide))]; rw [if_neg (fun hh => absurd hh.1 (by decide))]; trivial)
       ·
        clear hg
        have dd12 : (SetZ z (s.l i) (s.c i) (staysOf (fun x => decide (x.t < (tk : Int))) (s.l i)) (s.nd i) (xF 12) w5) := hd 12 (by kernel_rfl)
        have dd14 := hd 14 (by kernel_rfl)
        clear hd
        try generalize xF 12 = yy12 at *
        have hp12 := dd12
        obtain ⟨g14, he14, hg14, hl14⟩ := dd14
        simp only [he14] at hK ⊢
        have k0 := boxc hg14 0 _ rfl
        have k1 := boxc hg14 1 _ rfl
        have k2 := boxc hg14 2 _ rfl
        have q0 := boxf hg14 0
        have q1 := boxf hg14 1
        have q2 := boxf hg14 2
        have HG14 := Lib.hid hg14
        obtain ⟨L0, cc0, ⟨a0, n0, c0, a1, n1, c1, a2, n2, c2, rfl, hE0, hC0⟩, hQ0⟩ := hp12
        rw [if_pos (by rfl)]
        go_simp
        exact hK.out undef _ (⟨set3_kt HG14.out _ _ _, _, set3_grown _, hl14⟩) (trivial) (fun _ _ _ => ⟨trivial, trivial⟩) (fun jF _ => by (show (if _ ∧ jF = 14 then _ else (if _ ∧ jF = 15 then _ else True))); split; (rename_i hh; obtain ⟨_, rfl⟩ := hh; exact ⟨_, _, _, _, _, _, _, _, _, _, L0, cc0, he14, hl14, heap_setCell_same _ g14 2 _ _ _ (heap_setCell_same _ g14 1 _ _ _ (heap_setCell_same _ g14 0 _ _ _ HG14.out)), hE0.kt (set3_kt HG14.out _ _ _) (by decide), hC0.kt (set3_kt HG14.out _ _ _) (by decide), hQ0⟩); (rw [if_neg (fun hh => absurd hh.1 (by decide))]; trivial))
       ·
        clear hg
        have dd13 : (DltZ z (xF 13)) := hd 13 (by kernel_rfl)
        have dd15 := hd 15 (by kernel_rfl)
        clear hd
        try generalize xF 13 = yy13 at *
        have hp13 := dd13
        obtain ⟨g15, he15, hg15, hl15⟩ := dd15
        simp only [he15] at hK ⊢
        have k0 := boxc hg15 0 _ rfl
        have k1 := boxc hg15 1 _ rfl
        have k2 := boxc hg15 2 _ rfl
        have k3 := boxc hg15 3 _ rfl
        have q0 := boxf hg15 0
        have q1 := boxf hg15 1
        have q2 := boxf hg15 2
        have q3 := boxf hg15 3
        have HG15 := Lib.hid hg15
        obtain ⟨a3, n3, c3, a4, n4, c4, a5, n5, c5, a6, n6, c6, rfl, hR0⟩ := hp13
        rw [if_pos (by rfl)]
        go_simp
        exact hK.out undef _ (⟨set4_kt HG15.out _ _ _ _, _, set4_grown _, hl15⟩) (trivial) (fun _ _ _ => ⟨trivial, trivial⟩) (fun jF _ => by (show (if _ ∧ jF = 14 then _ else (if _ ∧ jF = 15 then _ else True))); rw [if_neg (fun hh => absurd hh.1 (by decide))]; split; (rename_i hh; obtain ⟨_, rfl⟩ := hh; exact ⟨_, _, _, _, _, _, _, _, _, _, _, _, _, he15, hl15, heap_setCell_same _ g15 3 _ _ _ (heap_setCell_same _ g15 2 _ _ _ (heap_setCell_same _ g15 1 _ _ _ (heap_setCell_same _ g15 0 _ _ _ HG15.out))), hR0⟩); trivial)
      intro xF w5 hR hF hP hW2
      have hpw0 := hW2 16 (by omega) 14 (by decide)
      rw [if_pos ⟨rfl, rfl⟩] at hpw0
      have hpw1 := hW2 17 (by omega) 15 (by decide)
      rw [if_neg (by intro hh; omega)] at hpw1
      rw [if_pos ⟨rfl, rfl⟩] at hpw1
      clear hW2
      clear hP
      have dd0 := hF 0 (by omega) (by decide)
      have dd1 := hF 1 (by omega) (by decide)
      have dd2 := hF 2 (by omega) (by decide)
      have dd3 := hF 3 (by omega) (by decide)
      have dd4 := hF 4 (by omega) (by decide)
      have dd5 := hF 5 (by omega) (by decide)
      have dd6 := hF 6 (by omega) (by decide)
      have dd7 := hF 7 (by omega) (by decide)
      have dd8 := hF 8 (by omega) (by decide)
      have dd9 := hF 9 (by omega) (by decide)
      have dd10 : (RemV z (s.l i) (s.c i) (staysOf (fun x => decide (x.t < (tk : Int))) (s.l i)) (s.nd i) (xF 10) w5) := hF 10 (by omega) (by decide)
      have dd11 : (RemV z (s.l i) (s.c i) (staysOf (fun x => decide (x.t < (tk : Int))) (s.l i)) (s.nd i) (xF 11) w5) := hF 11 (by omega) (by decide)
      have dd16 : (True) := hF 16 (by omega) (by decide)
      have dd17 : (True) := hF 17 (by omega) (by decide)
      clear hF
      simp only [take_succ_cons, take_zero, drop_succ_cons, drop_zero, fillOf, Act.put, setIfInBounds_toArray, set_cons_zero, set_cons_succ, Nat.reduceAdd, Nat.zero_add]
      try generalize xF 0 = yy0 at *
      try generalize xF 1 = yy1 at *
      try generalize xF 2 = yy2 at *
      try generalize xF 3 = yy3 at *
      try generalize xF 4 = yy4 at *
      try generalize xF 5 = yy5 at *
      try generalize xF 6 = yy6 at *
      try generalize xF 7 = yy7 at *
      try generalize xF 8 = yy8 at *
      try generalize xF 9 = yy9 at *
      try generalize xF 10 = yy10 at *
      try generalize xF 11 = yy11 at *
      try generalize xF 12 = yy12 at *
      try generalize xF 13 = yy13 at *
      try generalize xF 14 = yy14 at *
      try generalize xF 15 = yy15 at *
      try generalize xF 16 = yy16 at *
      try generalize xF 17 = yy17 at *
      clear xF
      obtain rfl := dd0
      obtain rfl := dd1
      obtain rfl := dd2
      obtain rfl := dd3
      obtain rfl := dd4
      obtain rfl := dd5
      obtain rfl := dd6
      obtain rfl := dd7
      obtain rfl := dd8
      obtain rfl := dd9
      have hp10 := dd10
      have hp11 := dd11
      have _ := dd16
      have _ := dd17
      have hRE := Lib.hid hR
      clear hR
      obtain ⟨gA, a0, n0, c0, a1, n1, c1, a2, n2, c2, L', c', rfl, hzA, hgA, hE, hC, hQ⟩ := hpw0
      obtain ⟨gB, t0, u0, r0, t1, u1, r1, t2, u2, r2, t3, u3, r3, rfl, hzB, hgB, hRZ⟩ := hpw1
      have HB5 : Hid (Below (w.heap.size + 1) W3 w5) := HBr.out.trans (hRE.out.mono (Nat.le_trans (by have := HS3.out; omega) HBr.out.size))
      have hG5 := HG2.out.on hRE.out
      have hM5 := HM2.out.on hRE.out
      have hP5 := HP2.out.on hRE.out
      have hlb : w.heap.size + 1 ≤ b4 := by rw [H4.out]; exact Nat.le_refl _
      have hl5 : w.heap.size + 1 ≤ b5 := by rw [H5.out]; exact Nat.le_succ _
      have d2 := boxc hgB 2 _ rfl
      have d3 := boxc hgB 3 _ rfl
      cases z
      ·
       obtain ⟨v1, v2, v3⟩ : u2 + u3 ≠ 0 ∧ u2 ≤ 1000 ∧ u3 ≤ 1000 := hRZ
       obtain ⟨hpm, hup, m, hIs⟩ : L'.Perm (staysOf (fun x => decide (x.t < (tk : Int))) (s.l i)) ∧ os.Up L' ∧ ∃ m, dm.Is c' (fun e => dm.Knows (s.c i) e ∨ e = s.nd i) m := hQ
       have hpos : (0 : Int) < (u2 : Int) + (u3 : Int) := by omega
       have c9 : w5.cell? ⟨b5, i, none⟩ = some (.int .i64 (mi : Int)) := by rw [HMI.out]; exact hM5.cell hi2
       have f9 : w5.frozen? ⟨b5, i, none⟩ = false := boxf hM5 i
       obtain ⟨w6, hw6⟩ : ∃ W, W = w5.setCell ⟨b5, i, none⟩ (.int .i64 ((mi : Int) + 1)) := ⟨_, rfl⟩
       have hk6 : Kt 72 w5 w6 := by rw [hw6]; exact Kt.set hM5 i _
       have hM6 : Box2 w6 b5 (upd s.made i (mi + 1)) := by
        rw [hw6, show (mi : Int) + 1 = ((mi + 1 : Nat) : Int) by omega]; exact hM5.set hi2 (mi + 1)
       have hG6 : Box6 w6 b4 g := by
        obtain ⟨arr, e1, e2⟩ := hG5
        exact ⟨arr, blk_kt e1 hk6 (by decide), e2⟩
       have hP6 := hP5.kt hk6 (by decide) (by decide)
       have hA6 := blk_kt hgA hk6 (by decide)
       have k0 := hG6.cell (j := i * 3) (by omega)
       have k1 := hG6.cell (j := i * 3 + 1) (by omega)
       have k2 := hG6.cell (j := i * 3 + 2) (by omega)
       have f0 := hG6.fro (i * 3)
       have f1 := hG6.fro (i * 3 + 1)
       have f2 := hG6.fro (i * 3 + 2)
       have e0 := boxc hA6 0 _ rfl
       have e1 := boxc hA6 1 _ rfl
       have e2 := boxc hA6 2 _ rfl
       obtain ⟨w7, hw7⟩ : ∃ W, W = ((w6.setCell ⟨b4, i * 3, none⟩ (.slice a0 n0 c0)).setCell ⟨b4, i * 3 + 1, none⟩ (.slice a1 n1 c1)).setCell ⟨b4, i * 3 + 2, none⟩ (.slice a2 n2 c2) := ⟨_, rfl⟩
       have hkt : Kt 41 w6 w7 := by rw [hw7]; exact kt3 hG6 _ _ _ _ _ _
       have HG' : Hid (Box6 w7 b4 (upd (upd (upd g (i * 3) (.slice a0 n0 c0)) (i * 3 + 1) (.slice a1 n1 c1)) (i * 3 + 2) (.slice a2 n2 c2))) := by
        show Box6 _ _ _
        rw [hw7]; exact ((hG6.set (by omega) _).set (by omega) _).set (by omega) _
       have HP' := Lib.hid ((hP6.kt hkt (by decide) (by decide)).put hi2 (s.made i + 1) ((hE.kt hk6 (by decide)).kt hkt (by decide)) ((hC.kt hk6 (by decide)).kt hkt (by decide)))
       obtain rfl : L' = staysOf (fun x => decide (x.t < (tk : Int))) (s.l i) := up_ext hup ((HV.out.set i hi2).up.sublist List.filter_sublist) fun x => hpm.mem_iff
       have HV' := Lib.hid (tinv_drop (p := fun x => decide (x.t < (tk : Int))) HV.out hi2 hIs)
       have HQ' := Lib.hid (runR_succ HQ.out (stepR_mk hi2 (HWW.out.trans hie) HOA.out hJe HOB.out hte HOK.out (stepK_two (J := J) (tk := tk) (Or.inr ⟨of_decide_eq_false HZ.out.symm, c', m, rfl, hIs⟩))))
       have HM' : Hid (Box2 w7 b5 (s.put i (staysOf (fun x => decide (x.t < (tk : Int))) (s.l i)) c' (s.made i + 1)).made) := by
        show Box2 _ _ (upd s.made i (s.made i + 1))
        rw [← HMI.out]
        exact blk_kt hM6 hkt (by decide)
       have HB' : Hid (Below (w.heap.size + 1) W3 w7) := by
        show Below _ _ _
        rw [hw7, hw6]
        exact (((HB5.out.setCell hl5 _).setCell hlb _).setCell hlb _).setCell hlb _
       rw [hw6] at k0 k1 k2 f0 f1 f2 e0 e1 e2 hw7
       have HW7 := Lib.hid hw7
       clear hw6 hw7 hk6 hM6 hG6 hP6 hA6 hkt hpm hup hIs hE hC hG5 hM5 hP5 hlb hl5 hgA hgB hzA hzB hRE v1
       go_wp2_with fail
       rw [← HW7.out]
       go_roundw
       case rel => exact ⟨k + 1, _, _, by go_num, by omega, HV'.out, HG'.out, HM'.out, HP'.out, HB'.out, HQ'.out⟩
       case measure => simp [intOf]; omega
      ·
       have v1 : u2 + u3 = 0 := hRZ
       obtain ⟨hL, hc'⟩ : L' = s.l i ∧ c' = s.c i := hQ
       subst hL hc'
       obtain rfl : u2 = 0 := by omega
       obtain rfl : u3 = 0 := by omega
       have k0 := hG5.cell (j := i * 3) (by omega)
       have k1 := hG5.cell (j := i * 3 + 1) (by omega)
       have k2 := hG5.cell (j := i * 3 + 2) (by omega)
       have f0 := hG5.fro (i * 3)
       have f1 := hG5.fro (i * 3 + 1)
       have f2 := hG5.fro (i * 3 + 2)
       have e0 := boxc hgA 0 _ rfl
       have e1 := boxc hgA 1 _ rfl
       have e2 := boxc hgA 2 _ rfl
       obtain ⟨w7, hw7⟩ : ∃ W, W = ((w5.setCell ⟨b4, i * 3, none⟩ (.slice a0 n0 c0)).setCell ⟨b4, i * 3 + 1, none⟩ (.slice a1 n1 c1)).setCell ⟨b4, i * 3 + 2, none⟩ (.slice a2 n2 c2) := ⟨_, rfl⟩
       have hkt : Kt 41 w5 w7 := by rw [hw7]; exact kt3 hG5 _ _ _ _ _ _
       have HG' : Hid (Box6 w7 b4 (upd (upd (upd g (i * 3) (.slice a0 n0 c0)) (i * 3 + 1) (.slice a1 n1 c1)) (i * 3 + 2) (.slice a2 n2 c2))) := by
        show Box6 _ _ _
        rw [hw7]; exact ((hG5.set (by omega) _).set (by omega) _).set (by omega) _
       have es : s.put i (s.l i) (s.c i) (s.made i) = s := by
        unfold TS.put
        rw [upd_self, upd_self, upd_self]
       have HP' : Hid (PIn 0 w7 (upd (upd (upd g (i * 3) (.slice a0 n0 c0)) (i * 3 + 1) (.slice a1 n1 c1)) (i * 3 + 2) (.slice a2 n2 c2)) s) := by
        have := (hP5.kt hkt (by decide) (by decide)).put hi2 (s.made i) (hE.kt hkt (by decide)) (hC.kt hkt (by decide))
        rw [es] at this
        exact this
       have HV' := Lib.hid (HV.out.mono (Nat.le_succ k))
       have HQ' := Lib.hid (runR_succ HQ.out (stepR_mk hi2 (HWW.out.trans hie) HOA.out hJe HOB.out hte HOK.out (stepK_two (J := J) (tk := tk) (Or.inl ⟨of_decide_eq_true HZ.out.symm, rfl⟩))))
       have HM' : Hid (Box2 w7 b5 s.made) := blk_kt hM5 hkt (by decide)
       have HB' : Hid (Below (w.heap.size + 1) W3 w7) := by
        show Below _ _ _
        rw [hw7]
        exact ((HB5.out.setCell hlb _).setCell hlb _).setCell hlb _
       have HW7 := Lib.hid hw7
       clear hw7 hkt hE hC hG5 hM5 hP5 hlb hl5 hgA hgB hzA hzB hRE v1 es
       go_wp2_with fail
       rw [← HW7.out]
       go_roundw
       case rel => exact ⟨k + 1, _, _, by go_num, by omega, HV'.out, HG'.out, HM'.out, HP'.out, HB'.out, HQ'.out⟩
       case measure => simp [intOf]; omega
     ·
      by_cases h3 : oK = 3
      ·
       subst h3
       obtain ⟨j, hj⟩ : ∃ j : Nat, j = 1 - i := ⟨_, rfl⟩
       have hj2 : j < 2 := by omega
       have hj2i : (j : Int) < 2 := by omega
       have hj0i : 0 ≤ (j : Int) := by omega
       have hji : j ≠ i := by omega
       have HJI := Lib.hid hj
       have HSUB : Hid (IntKind.i64.wrap (1 - (i : Int)) = (j : Int)) := by
        show _ = _
        rw [IntWalk.i64_in _ (by omega)]; omega
       obtain ⟨be, de, hge⟩ : ∃ a c, g (j * 3) = .slice a (s.l j).length c := own_slice (HP2.out.ent j hj2)
       obtain ⟨me, hme⟩ : ∃ n, n = (s.l j).length := ⟨_, rfl⟩
       rw [← hme] at hge
       obtain ⟨bv, mv, dv, bc, mc, dc, hgc⟩ := (HP2.out.ctx j hj2).form
       simp only [Value.agg.injEq, Array.mk.injEq, List.cons.injEq, and_true] at hgc
       have HGE' := Lib.hid hge
       have HGC' := Lib.hid hgc
       have XT : Hid (∀ ww, Below w2.heap.size w2 ww → ww.cell? ⟨b4, j * 3, none⟩ = some (.slice be me de) ∧ ww.cell? ⟨b4, j * 3 + 1, none⟩ = some (.slice bv mv dv) ∧ ww.cell? ⟨b4, j * 3 + 2, none⟩ = some (.slice bc mc dc)) := fun ww hw => by
        have bx := HG2.out.on hw
        have k0 := bx.cell (j := j * 3) (by omega)
        have k1 := bx.cell (j := j * 3 + 1) (by omega)
        have k2 := bx.cell (j := j * 3 + 2) (by omega)
        rw [HGE'.out] at k0
        rw [HGC'.out.1] at k1
        rw [HGC'.out.2] at k2
        exact ⟨k0, k1, k2⟩
       have HSF : Hid (SetE 0 (s.l j) (s.c j) (.agg #[.slice be me de, .slice bv mv dv, .slice bc mc dc]) w2) := by
        have h1 := HP2.out.ent j hj2
        have h2 := HP2.out.ctx j hj2
        rw [HGE'.out] at h1
        rw [HGC'.out.1, HGC'.out.2] at h2
        exact ⟨_, _, _, _, _, _, _, _, _, rfl, h1, h2⟩
       have HCI : Hid (OwnC 0 w2 (.agg #[.slice av nv cv, .slice ac nc cc]) (s.c i)) := by
        have h2 := HP2.out.ctx i hi2
        rw [HGC.out.1, HGC.out.2] at h2
        exact h2
       have HSIN : Hid (∀ W, Below w2.heap.size w2 W → Calls Tryz.prog 13 #[.agg #[.slice be me de, .slice bv mv dv, .slice bc mc dc], .agg #[.slice av nv cv, .slice ac nc cc]] W fun e w' => ∃ d, e = .returned d ∧ SncV 0 (s.l j) (s.c j) (s.c i) d w' ∧ Below W.heap.size W w') := fun W hW =>
        since_v _ _ _ _ _ _ W ((setE_kept _ _ _).on HSF.out hW) (HCI.out.on hW) (HV.out.set j hj2) (HV.out.set i hi2).right (by have := HV.out.len hj2; omega) (by have := HV.out.len1 j hj2; omega) (by have := HV.out.cloud hj2; omega) (MX.next HMX2.out hW)
       have HAPP : Hid (∀ W d, Below w2.heap.size w2 W → SncV 0 (s.l j) (s.c j) (s.c i) d W → Calls Tryz.prog 24 #[.agg #[.slice ae ne ce, .slice av nv cv, .slice ac nc cc], d] W fun e w' => ∃ v', e = .returned v' ∧ MrgV 0 (s.l i) (s.c i) (s.l j) (s.c j) v' w' ∧ Below W.heap.size W w') := fun W d hW hd =>
        apply_v _ _ _ _ _ _ W ((setE_kept _ _ _).on HSE.out hW) hd (HV.out.set i hi2) (HV.out.set j hj2) (by have := HV.out.len hi2; omega) (by have := HV.out.len hj2; omega) (by have := HV.out.cloud hi2; omega) (by have := HV.out.cloud hj2; omega) (MX.next HMX2.out hW)
       clear hge hgc hme hj
       go_wp2_with fail
       refine wp_flow 15 (fun _ => 1000) (fun ww => RowKit.Below w2.heap.size w2 ww) (fun _ w w' => (fun (w w' : World) => RowKit.Below w.heap.size w w') w w') (fun kF vF wF => match kF with | 0 => (vF = .int .i64 (i : Int)) | 1 => (vF = .int .i64 (i : Int)) | 2 => (vF = .pointer (some ⟨b4, i * 3, none⟩)) | 3 => (vF = .agg #[.slice ae ne ce, .slice av nv cv, .slice ac nc cc]) | 4 => (vF = .int .i64 (i : Int)) | 5 => (vF = .int .i64 (j : Int)) | 6 => (vF = .pointer (some ⟨b4, j * 3, none⟩)) | 7 => (vF = .agg #[.slice be me de, .slice bv mv dv, .slice bc mc dc]) | 8 => (vF = .int .i64 (i : Int)) | 9 => (vF = .pointer (some ⟨b4, i * 3, none⟩)) | 10 => (vF = .pointer (some ⟨b4, i * 3 + 1, none⟩)) | 11 => (vF = .agg #[.slice av nv cv, .slice ac nc cc]) | 12 => (SncV 0 (s.l j) (s.c j) (s.c i) vF wF) | 13 => (MrgV 0 (s.l i) (s.c i) (s.l j) (s.c j) vF wF) | 14 => (vF = .pointer (some ⟨b4, i * 3, none⟩)) | _ => True) (fun _ _ _ _ => True) (by kernel_rfl) (by kernel_rfl) ?_ ?_ ?_ ?_ ?_
       ·
        exact (Below.refl _ _).drew
       ·
        intro iF wF1 wF2 hR hT; exact hR.trans (hT.mono hR.size)
       ·
        intro kF hkF iF hiF hne hdd hanc hdan vF wF1 wF2 h hT
        rcases (by omega : kF = 0 ∨ kF = 1 ∨ kF = 2 ∨ kF = 3 ∨ kF = 4 ∨ kF = 5 ∨ kF = 6 ∨ kF = 7 ∨ kF = 8 ∨ kF = 9 ∨ kF = 10 ∨ kF = 11 ∨ kF = 12 ∨ kF = 13 ∨ kF = 14) with rfl | rfl | rfl | rfl | rfl | rfl | rfl | rfl | rfl | rfl | rfl | rfl | rfl | rfl | rfl
        iterate 12 exact h
        ·
         have h : (SncV 0 (s.l j) (s.c j) (s.c i) vF wF1) := h
         show (SncV 0 (s.l j) (s.c j) (s.c i) vF wF2)
         have hT : (fun (w w' : World) => RowKit.Below w.heap.size w w') wF1 wF2 := hT
         simp only at hT
         exact (sncV_kept _ _ _ _).on h hT
        ·
         have h : (MrgV 0 (s.l i) (s.c i) (s.l j) (s.c j) vF wF1) := h
         show (MrgV 0 (s.l i) (s.c i) (s.l j) (s.c j) vF wF2)
         have hT : (fun (w w' : World) => RowKit.Below w.heap.size w w') wF1 wF2 := hT
         simp only at hT
         exact (mrgV_kept _ _ _ _ _).on h hT
        ·
         exact h
       ·
        generalize hAF : fillOf _ _ _ = AF
        replace hAF := fun x => congrFun hAF x
        simp only [take_succ_cons, take_zero, fillOf, Act.put, setIfInBounds_toArray, set_cons_zero, set_cons_succ, Nat.reduceAdd, Nat.zero_add] at hAF
        refine .cons ?_ (.cons ?_ (.cons ?_ (.cons ?_ (.cons ?_ (.cons ?_ (.cons ?_ (.cons ?_ (.cons ?_ (.cons ?_ (.cons ?_ (.cons ?_ (.cons ?_ (.cons ?_ (.cons ?_ (.nil)))))))))))))))
        all_goals
         intro xF w5 hR hd K hK
         first | simp only [← hAF, Act.put, setIfInBounds_toArray, set_cons_zero, set_cons_succ] at hK ⊢ | simp only [← hAF, Act.put] at hK ⊢
         clear hAF
         try simp only [Nat.zero_add, Nat.reduceAdd] at hK ⊢
        ·
         clear hd
         rw [if_pos (by rfl)]
         go_simp
         exact hK.out _ _ (Below.refl _ _) (rfl) (fun _ _ _ => ⟨trivial, trivial⟩)
        ·
         clear hd
         rw [if_pos (by rfl)]
         go_simp
         exact hK.out _ _ (Below.refl _ _) (rfl) (fun _ _ _ => ⟨trivial, trivial⟩)
        ·
         have dd1 := hd 1 (by kernel_rfl)
         clear hd
         try generalize xF 1 = yy1 at *
         obtain rfl := dd1
         rw [if_pos (by rfl)]
         go_simp
         exact hK.out _ _ (Below.refl _ _) (rfl) (fun _ _ _ => ⟨trivial, trivial⟩)
        ·
         have dd2 := hd 2 (by kernel_rfl)
         clear hd
         try generalize xF 2 = yy2 at *
         obtain rfl := dd2
         obtain ⟨e0, e1, e2⟩ := XS.out _ hR
         rw [if_pos (by rfl)]
         go_simp
         exact hK.out _ _ (Below.refl _ _) (rfl) (fun _ _ _ => ⟨trivial, trivial⟩)
        ·
         clear hd
         rw [if_pos (by rfl)]
         go_simp
         exact hK.out _ _ (Below.refl _ _) (rfl) (fun _ _ _ => ⟨trivial, trivial⟩)
        ·
         have dd4 := hd 4 (by kernel_rfl)
         clear hd
         try generalize xF 4 = yy4 at *
         obtain rfl := dd4
         have hs := HSUB.out
         rw [if_pos (by rfl)]
         go_simp
         exact hK.out _ _ (Below.refl _ _) (rfl) (fun _ _ _ => ⟨trivial, trivial⟩)
        ·
         have dd5 := hd 5 (by kernel_rfl)
         clear hd
         try generalize xF 5 = yy5 at *
         obtain rfl := dd5
         rw [if_pos (by rfl)]
         go_simp
         exact hK.out _ _ (Below.refl _ _) (rfl) (fun _ _ _ => ⟨trivial, trivial⟩)
        ·
         have dd6 := hd 6 (by kernel_rfl)
         clear hd
         try generalize xF 6 = yy6 at *
         obtain rfl := dd6
         obtain ⟨e0, e1, e2⟩ := XT.out _ hR
         rw [if_pos (by rfl)]
         go_simp
         exact hK.out _ _ (Below.refl _ _) (rfl) (fun _ _ _ => ⟨trivial, trivial⟩)
        ·
         clear hd
         rw [if_pos (by rfl)]
         go_simp
         exact hK.out _ _ (Below.refl _ _) (rfl) (fun _ _ _ => ⟨trivial, trivial⟩)
        ·
         have dd8 := hd 8 (by kernel_rfl)
         clear hd
         try generalize xF 8 = yy8 at *
         obtain rfl := dd8
         rw [if_pos (by rfl)]
         go_simp
         exact hK.out _ _ (Below.refl _ _) (rfl) (fun _ _ _ => ⟨trivial, trivial⟩)
        ·
         have dd9 := hd 9 (by kernel_rfl)
         clear hd
         try generalize xF 9 = yy9 at *
         obtain rfl := dd9
         rw [if_pos (by rfl)]
         go_simp
         exact hK.out _ _ (Below.refl _ _) (rfl) (fun _ _ _ => ⟨trivial, trivial⟩)
        ·
         have dd10 := hd 10 (by kernel_rfl)
         clear hd
         try generalize xF 10 = yy10 at *
         obtain rfl := dd10
         obtain ⟨e0, e1, e2⟩ := XS.out _ hR
         rw [if_pos (by rfl)]
         go_simp
         exact hK.out _ _ (Below.refl _ _) (rfl) (fun _ _ _ => ⟨trivial, trivial⟩)
        ·
         have dd7 := hd 7 (by kernel_rfl)
         have dd11 := hd 11 (by kernel_rfl)
         clear hd
         try generalize xF 7 = yy7 at *
         try generalize xF 11 = yy11 at *
         obtain rfl := dd7
         obtain rfl := dd11
         rw [if_pos (by rfl)]
         go_simp
         (go_at_call 13; (with_reducible refine (HSIN.out _ hR).mono ?_); rintro e wK ⟨vK, rfl, hpK, hbK⟩)
         try go_wp2_with fail
         exact hK.out _ _ (hbK) (hpK) (fun _ _ _ => ⟨trivial, trivial⟩)
        ·
         have dd3 := hd 3 (by kernel_rfl)
         have dd12 : (SncV 0 (s.l j) (s.c j) (s.c i) (xF 12) w5) := hd 12 (by kernel_rfl)
         clear hd
         try generalize xF 3 = yy3 at *
         try generalize xF 12 = yy12 at *
         obtain rfl := dd3
         have hp12 := dd12
         rw [if_pos (by rfl)]
         go_simp
         (go_at_call 24; (with_reducible refine (HAPP.out _ _ hR hp12).mono ?_); rintro e wK ⟨vK, rfl, hpK, hbK⟩)
         try go_wp2_with fail
         exact hK.out _ _ (hbK) (hpK) (fun _ _ _ => ⟨trivial, trivial⟩)
        ·
         have dd0 := hd 0 (by kernel_rfl)
         clear hd
         try generalize xF 0 = yy0 at *
         obtain rfl := dd0
         rw [if_pos (by rfl)]
         go_simp
         exact hK.out _ _ (Below.refl _ _) (rfl) (fun _ _ _ => ⟨trivial, trivial⟩)
       intro xF w5 hR hF hP
       clear hP
       have dd0 := hF 0 (by omega) (by decide)
       have dd1 := hF 1 (by omega) (by decide)
       have dd2 := hF 2 (by omega) (by decide)
       have dd3 := hF 3 (by omega) (by decide)
       have dd4 := hF 4 (by omega) (by decide)
       have dd5 := hF 5 (by omega) (by decide)
       have dd6 := hF 6 (by omega) (by decide)
       have dd7 := hF 7 (by omega) (by decide)
       have dd8 := hF 8 (by omega) (by decide)
       have dd9 := hF 9 (by omega) (by decide)
       have dd10 := hF 10 (by omega) (by decide)
       have dd11 := hF 11 (by omega) (by decide)
       have dd12 : (SncV 0 (s.l j) (s.c j) (s.c i) (xF 12) w5) := hF 12 (by omega) (by decide)
       have dd13 : (MrgV 0 (s.l i) (s.c i) (s.l j) (s.c j) (xF 13) w5) := hF 13 (by omega) (by decide)
       have dd14 := hF 14 (by omega) (by decide)
       clear hF
       simp only [take_succ_cons, take_zero, drop_succ_cons, drop_zero, fillOf, Act.put, setIfInBounds_toArray, set_cons_zero, set_cons_succ, Nat.reduceAdd, Nat.zero_add]
       try generalize xF 0 = yy0 at *
       try generalize xF 1 = yy1 at *
       try generalize xF 2 = yy2 at *
       try generalize xF 3 = yy3 at *
       try generalize xF 4 = yy4 at *
       try generalize xF 5 = yy5 at *
       try generalize xF 6 = yy6 at *
       try generalize xF 7 = yy7 at *
       try generalize xF 8 = yy8 at *
       try generalize xF 9 = yy9 at *
       try generalize xF 10 = yy10 at *
       try generalize xF 11 = yy11 at *
       try generalize xF 12 = yy12 at *
       try generalize xF 13 = yy13 at *
       try generalize xF 14 = yy14 at *
       clear xF
       obtain rfl := dd0
       obtain rfl := dd1
       obtain rfl := dd2
       obtain rfl := dd3
       obtain rfl := dd4
       obtain rfl := dd5
       obtain rfl := dd6
       obtain rfl := dd7
       obtain rfl := dd8
       obtain rfl := dd9
       obtain rfl := dd10
       obtain rfl := dd11
       have hp12 := dd12
       have hp13 := dd13
       obtain rfl := dd14
       have hRE := Lib.hid hR
       clear hR
       obtain ⟨L', c', ⟨a0, n0, c0, a1, n1, c1, a2, n2, c2, rfl, hE, hC⟩, hpm, hup, m, hIs⟩ := hp13
       have hbx := HG2.out.on hRE.out
       have k0 := hbx.cell (j := i * 3) (by omega)
       have k1 := hbx.cell (j := i * 3 + 1) (by omega)
       have k2 := hbx.cell (j := i * 3 + 2) (by omega)
       have f0 := hbx.fro (i * 3)
       have f1 := hbx.fro (i * 3 + 1)
       have f2 := hbx.fro (i * 3 + 2)
       obtain ⟨w6, hw6⟩ : ∃ W, W = ((w5.setCell ⟨b4, i * 3, none⟩ (.slice a0 n0 c0)).setCell ⟨b4, i * 3 + 1, none⟩ (.slice a1 n1 c1)).setCell ⟨b4, i * 3 + 2, none⟩ (.slice a2 n2 c2) := ⟨_, rfl⟩
       have hkt : Kt 41 w5 w6 := by rw [hw6]; exact kt3 hbx _ _ _ _ _ _
       have HG' : Hid (Box6 w6 b4 (upd (upd (upd g (i * 3) (.slice a0 n0 c0)) (i * 3 + 1) (.slice a1 n1 c1)) (i * 3 + 2) (.slice a2 n2 c2))) := by
        show Box6 _ _ _
        rw [hw6]; exact ((hbx.set (by omega) _).set (by omega) _).set (by omega) _
       have HQ' := Lib.hid (runR_succ HQ.out (stepR_mk hi2 (HWW.out.trans hie) HOA.out hJe HOB.out hte HOK.out (stepK_tell (J := J) (tk := tk) ⟨L', c', m, rfl, by rw [← HJI.out]; exact hpm, hup, by rw [← HJI.out]; exact hIs⟩)))
       have HP' := Lib.hid ((((HP2.out.on hRE.out).kt hkt (by decide) (by decide)).put hi2 (s.made i) (hE.kt hkt (by decide)) (hC.kt hkt (by decide))))
       have HV' := Lib.hid ((tinv_told HV.out hi2 hj2 hpm hup hIs).mono (Nat.le_succ k))
       have HM' : Hid (Box2 w6 b5 (s.put i L' c' (s.made i)).made) := by
        show Box2 _ _ (upd s.made i (s.made i))
        rw [upd_self]
        exact blk_kt (HM2.out.on hRE.out) hkt (by decide)
       have hlb : w.heap.size + 1 ≤ b4 := by rw [H4.out]; exact Nat.le_refl _
       have HB' : Hid (Below (w.heap.size + 1) W3 w6) := by
        show Below _ _ _
        rw [hw6]
        exact (((HBr.out.trans (hRE.out.mono (Nat.le_trans (by have := HS3.out; omega) HBr.out.size))).setCell hlb _).setCell hlb _).setCell hlb _
       have HW6 := Lib.hid hw6
       clear hbx hw6 hkt hE hC hpm hup hIs hlb hRE
       go_wp2_with fail
       rw [← HW6.out]
       go_roundw
       case rel => exact ⟨k + 1, _, _, by go_num, by omega, HV'.out, HG'.out, HM'.out, HP'.out, HB'.out, HQ'.out⟩
       case measure => simp [intOf]; omega
      ·
       have hd1 : (oK == 1) = false := by simpa using h1
       have hd2 : (oK == 2) = false := by simpa using h2
       have hd3 : (oK == 3) = false := by simpa using h3
       have HK1 := Lib.hid h1
       have HK2 := Lib.hid h2
       have HK3 := Lib.hid h3
       clear h1 h2 h3
       have hmk' : (mi : Int) ≤ 50 := by omega
       have hwr : IntKind.i64.wrap ((mi : Int) + 1) = (mi : Int) + 1 := IntWalk.i64_in _ (by omega)
       have c9 : w2.cell? ⟨b5, i, none⟩ = some (.int .i64 (mi : Int)) := by rw [HMI.out]; exact HM2.out.cell hi2
       have f9 : w2.frozen? ⟨b5, i, none⟩ = false := boxf HM2.out i
       obtain ⟨w3, hw3⟩ : ∃ W, W = w2.setCell ⟨b5, i, none⟩ (.int .i64 ((mi : Int) + 1)) := ⟨_, rfl⟩
       have hk3 : Kt 72 w2 w3 := by rw [hw3]; exact Kt.set HM2.out i _
       have HM3 : Hid (Box2 w3 b5 (upd s.made i (mi + 1))) := by
        show Box2 _ _ _
        rw [hw3, show (mi : Int) + 1 = ((mi + 1 : Nat) : Int) by omega]; exact HM2.out.set hi2 (mi + 1)
       have HG3 : Hid (Box6 w3 b4 g) := by
        obtain ⟨arr, e1, e2⟩ := HG2.out
        exact ⟨arr, blk_kt e1 hk3 (by decide), e2⟩
       have HP3 := Lib.hid (HP2.out.kt hk3 (by decide) (by decide))
       have HSE3 := Lib.hid ((setE_kept _ _ _).kt HSE.out hk3 (by decide) (by decide))
       have hl5 : w.heap.size + 1 ≤ b5 := by rw [H5.out]; exact Nat.le_succ _
       have HBr3 : Hid (Below (w.heap.size + 1) W3 w3) := by show Below _ _ _; rw [hw3]; exact HBr.out.setCell hl5 _
       have HMX3 : Hid (MX w3) := MX.b HMX.out HBr3.out (Nat.succ_pos _)
       have XS3 : Hid (∀ ww, Below w3.heap.size w3 ww → ww.cell? ⟨b4, i * 3, none⟩ = some (.slice ae ne ce) ∧ ww.cell? ⟨b4, i * 3 + 1, none⟩ = some (.slice av nv cv) ∧ ww.cell? ⟨b4, i * 3 + 2, none⟩ = some (.slice ac nc cc)) := fun ww hw => by
        have bx := HG3.out.on hw
        have k0 := bx.cell (j := i * 3) (by omega)
        have k1 := bx.cell (j := i * 3 + 1) (by omega)
        have k2 := bx.cell (j := i * 3 + 2) (by omega)
        rw [HGE.out] at k0
        rw [HGC.out.1] at k1
        rw [HGC.out.2] at k2
        exact ⟨k0, k1, k2⟩
       have HWN := Lib.hid hw3
       clear hk3 hl5 hw3
       obtain ⟨x, hx⟩ : ∃ x : Ent, x = ⟨nam J, s.nd i, (tk : Int)⟩ := ⟨_, rfl⟩
       have HXE := Lib.hid hx
       have HNE : Hid (some b5 ≠ some b4) := fun e => by have := Option.some.inj e; have := H4.out; have := H5.out; omega
       have HADD : Hid (∀ W, w3.grownBy W (some b4) → Calls Tryz.prog 53 #[.agg #[.slice ae ne ce, .slice av nv cv, .slice ac nc cc], .agg #[.string (nam J), .int .i64 (i : Int), .int .i64 ((mi : Int) + 1), .int .i64 (tk : Int), .slice none 0 0]] W fun e w' => ∃ v', e = .returned v' ∧ TupV (staysOf (fun y => decide (y.s = nam J)) (s.l i) ++ [x]) (s.c i) (s.nd i) v' w' ∧ Below W.heap.size W w') := fun W hW => by
        have hfx : os.Fine x := by rw [HXE.out]; exact nam_fine (HV.out.nd_valid hi2 (by omega)) (by omega) (by omega)
        have hfr : ¬ dm.Knows (s.c i) x.d := by rw [HXE.out]; exact HV.out.fresh hi2
        have hc := add_v (s.l i) (s.c i) x _ W ((setE_kept _ _ _).kt HSE3.out (box6_ktg HG3.out hW) (by decide) (by decide)) (HV.out.set i hi2) hfx hfr (by have := HV.out.len hi2; omega) (by have := HV.out.cloud hi2; omega) (HMX3.out.g hW (by have := HBr3.out.size; have := HS3.out; omega) (by have := H4.out; omega))
        have ev : eval' x = .agg #[.string (nam J), .int .i64 (i : Int), .int .i64 ((mi : Int) + 1), .int .i64 (tk : Int), .slice none 0 0] := by rw [HXE.out, HMI.out]; rfl
        have exd : x.d = s.nd i := by rw [HXE.out]
        have exs : x.s = nam J := by rw [HXE.out]
        rw [ev, exd, exs] at hc
        exact hc
       have HFX : Hid (os.Fine x) := by show os.Fine x; rw [HXE.out]; exact nam_fine (HV.out.nd_valid hi2 (by omega)) (by omega) (by omega)
       have HXD : Hid (x.d = s.nd i) := by show _ = _; rw [HXE.out]
       clear hx
       go_wp2_with fail
       rw [← HWN.out]
       clear c9 f9
       refine wp_flowG 19 (fun _ => 1000) (fun ww => w3.grownBy ww (some b4)) (fun i w w' => if i = 18 then (fun (w w' : World) => Kt 41 w w' ∧ w.grownBy w' (some b4)) w w' else (fun (w w' : World) => RowKit.Below w.heap.size w w') w w') (fun sF wF => match sF with | 18 => (Box6 wF b4 g) | _ => True) (fun kF vF wF => match kF with | 0 => (vF = .int .i64 (i : Int)) | 1 => (vF = .int .i64 (i : Int)) | 2 => (vF = .pointer (some ⟨b4, i * 3, none⟩)) | 3 => (vF = .agg #[.slice ae ne ce, .slice av nv cv, .slice ac nc cc]) | 4 => (vF = .string (nam J)) | 5 => (vF = .int .i64 (i : Int)) | 6 => (vF = .int .i64 (i : Int)) | 7 => (vF = .pointer (some ⟨b5, i, none⟩)) | 8 => (vF = .int .i64 ((mi : Int) + 1)) | 9 => (vF = .agg #[.int .i64 (i : Int), .int .i64 ((mi : Int) + 1)]) | 10 => (vF = .int .i64 (tk : Int)) | 11 => (vF = .agg #[.string (nam J), .int .i64 (i : Int), .int .i64 ((mi : Int) + 1), .int .i64 (tk : Int), .slice none 0 0]) | 12 => (TupV (staysOf (fun y => decide (y.s = nam J)) (s.l i) ++ [x]) (s.c i) (s.nd i) vF wF) | 13 => (TupV (staysOf (fun y => decide (y.s = nam J)) (s.l i) ++ [x]) (s.c i) (s.nd i) vF wF) | 14 => (AddV (staysOf (fun y => decide (y.s = nam J)) (s.l i) ++ [x]) (s.c i) (s.nd i) vF wF) | 15 => (True) | 16 => (vF = .int .i64 0) | 17 => (vF = .pointer (some ⟨b4, i * 3, none⟩)) | 18 => (StoV b4 i g (staysOf (fun y => decide (y.s = nam J)) (s.l i) ++ [x]) (s.c i) (s.nd i) wF) | _ => True) (fun _ _ _ _ => True) (by kernel_rfl) (by kernel_rfl) ?_ ?_ ?_ ?_ ?_ ?_ ?_
       ·
        exact grown_below' ((Below.refl _ _).drew)
       ·
        intro sF hsF
        rcases (by omega : sF = 0 ∨ sF = 1 ∨ sF = 2 ∨ sF = 3 ∨ sF = 4 ∨ sF = 5 ∨ sF = 6 ∨ sF = 7 ∨ sF = 8 ∨ sF = 9 ∨ sF = 10 ∨ sF = 11 ∨ sF = 12 ∨ sF = 13 ∨ sF = 14 ∨ sF = 15 ∨ sF = 16 ∨ sF = 17 ∨ sF = 18) with rfl | rfl | rfl | rfl | rfl | rfl | rfl | rfl | rfl | rfl | rfl | rfl | rfl | rfl | rfl | rfl | rfl | rfl | rfl
        iterate 18 exact trivial
        ·
         exact HG3.out.on ((Below.refl _ _).drew)
       ·
        intro iF wF1 wF2 hR hT
        have hT : (fun i w w' => if i = 18 then (fun (w w' : World) => Kt 41 w w' ∧ w.grownBy w' (some b4)) w w' else (fun (w w' : World) => RowKit.Below w.heap.size w w') w w') iF wF1 wF2 := hT
        simp only at hT
        by_cases hi18 : iF = 18
        ·
         rw [if_pos hi18] at hT; exact grown_trans hR hT.2
        rw [if_neg hi18] at hT
        exact grown_trans hR (grown_below' hT)
       ·
        intro sF hsF iF hiF hne hanc wF1 wF2 hRF hgF hT
        rcases (by omega : sF = 0 ∨ sF = 1 ∨ sF = 2 ∨ sF = 3 ∨ sF = 4 ∨ sF = 5 ∨ sF = 6 ∨ sF = 7 ∨ sF = 8 ∨ sF = 9 ∨ sF = 10 ∨ sF = 11 ∨ sF = 12 ∨ sF = 13 ∨ sF = 14 ∨ sF = 15 ∨ sF = 16 ∨ sF = 17 ∨ sF = 18) with rfl | rfl | rfl | rfl | rfl | rfl | rfl | rfl | rfl | rfl | rfl | rfl | rfl | rfl | rfl | rfl | rfl | rfl | rfl
        iterate 18 exact trivial
        ·
         have hg : (Box6 wF1 b4 g) := hgF
         show (Box6 wF2 b4 g)
         have hT : (fun i w w' => if i = 18 then (fun (w w' : World) => Kt 41 w w' ∧ w.grownBy w' (some b4)) w w' else (fun (w w' : World) => RowKit.Below w.heap.size w w') w w') iF wF1 wF2 := hT
         simp only at hT
         by_cases hi18 : iF = 18
         ·
          exact absurd hi18.symm hne
         rw [if_neg hi18] at hT
         exact hg.on hT
       ·
        intro kF hkF iF hiF hne hdd hanc hdan vF wF1 wF2 h hT
        rcases (by omega : kF = 0 ∨ kF = 1 ∨ kF = 2 ∨ kF = 3 ∨ kF = 4 ∨ kF = 5 ∨ kF = 6 ∨ kF = 7 ∨ kF = 8 ∨ kF = 9 ∨ kF = 10 ∨ kF = 11 ∨ kF = 12 ∨ kF = 13 ∨ kF = 14 ∨ kF = 15 ∨ kF = 16 ∨ kF = 17 ∨ kF = 18) with rfl | rfl | rfl | rfl | rfl | rfl | rfl | rfl | rfl | rfl | rfl | rfl | rfl | rfl | rfl | rfl | rfl | rfl | rfl
        iterate 12 exact h
        ·
         have h : (TupV (staysOf (fun y => decide (y.s = nam J)) (s.l i) ++ [x]) (s.c i) (s.nd i) vF wF1) := h
         show (TupV (staysOf (fun y => decide (y.s = nam J)) (s.l i) ++ [x]) (s.c i) (s.nd i) vF wF2)
         have hT : (fun i w w' => if i = 18 then (fun (w w' : World) => Kt 41 w w' ∧ w.grownBy w' (some b4)) w w' else (fun (w w' : World) => RowKit.Below w.heap.size w w') w w') iF wF1 wF2 := hT
         simp only at hT
         by_cases hi18 : iF = 18
         ·
          rw [if_pos hi18] at hT
          exact (tupV_kept _ _ _).kt h hT.1 (by decide) (by decide)
         rw [if_neg hi18] at hT
         exact (tupV_kept _ _ _).on h hT
        ·
         have h : (TupV (staysOf (fun y => decide (y.s = nam J)) (s.l i) ++ [x]) (s.c i) (s.nd i) vF wF1) := h
         show (TupV (staysOf (fun y => decide (y.s = nam J)) (s.l i) ++ [x]) (s.c i) (s.nd i) vF wF2)
         have hT : (fun i w w' => if i = 18 then (fun (w w' : World) => Kt 41 w w' ∧ w.grownBy w' (some b4)) w w' else (fun (w w' : World) => RowKit.Below w.heap.size w w') w w') iF wF1 wF2 := hT
         simp only at hT
         by_cases hi18 : iF = 18
         ·
          rw [if_pos hi18] at hT
          exact (tupV_kept _ _ _).kt h hT.1 (by decide) (by decide)
         rw [if_neg hi18] at hT
         exact (tupV_kept _ _ _).on h hT
        ·
         have h : (AddV (staysOf (fun y => decide (y.s = nam J)) (s.l i) ++ [x]) (s.c i) (s.nd i) vF wF1) := h
         show (AddV (staysOf (fun y => decide (y.s = nam J)) (s.l i) ++ [x]) (s.c i) (s.nd i) vF wF2)
         have hT : (fun i w w' => if i = 18 then (fun (w w' : World) => Kt 41 w w' ∧ w.grownBy w' (some b4)) w w' else (fun (w w' : World) => RowKit.Below w.heap.size w w') w w') iF wF1 wF2 := hT
         simp only at hT
         by_cases hi18 : iF = 18
         ·
          rw [if_pos hi18] at hT
          exact (addV_kept _ _ _).kt h hT.1 (by decide) (by decide)
         rw [if_neg hi18] at hT
         exact (addV_kept _ _ _).on h hT
        iterate 3 exact h
        ·
         have h : (StoV b4 i g (staysOf (fun y => decide (y.s = nam J)) (s.l i) ++ [x]) (s.c i) (s.nd i) wF1) := h
         show (StoV b4 i g (staysOf (fun y => decide (y.s = nam J)) (s.l i) ++ [x]) (s.c i) (s.nd i) wF2)
         have hT : (fun i w w' => if i = 18 then (fun (w w' : World) => Kt 41 w w' ∧ w.grownBy w' (some b4)) w w' else (fun (w w' : World) => RowKit.Below w.heap.size w w') w w') iF wF1 wF2 := hT
         simp only at hT
         by_cases hi18 : iF = 18
         ·
          exact absurd hi18.symm hne
         rw [if_neg hi18] at hT
         exact h.on hT
       ·
        generalize hAF : fillOf _ _ _ = AF
        replace hAF := fun x => congrFun hAF x
        simp only [take_succ_cons, take_zero, fillOf, Act.put, setIfInBounds_toArray, set_cons_zero, set_cons_succ, Nat.reduceAdd, Nat.zero_add] at hAF
        refine .cons ?_ (.cons ?_ (.cons ?_ (.cons ?_ (.cons ?_ (.cons ?_ (.cons ?_ (.cons ?_ (.cons ?_ (.cons ?_ (.cons ?_ (.cons ?_ (.cons ?_ (.cons ?_ (.cons ?_ (.cons ?_ (.cons ?_ (.cons ?_ (.cons ?_ (.nil)))))))))))))))))))
        all_goals
         intro xF w5 hR hg hd K hK
         first | simp only [← hAF, Act.put, setIfInBounds_toArray, set_cons_zero, set_cons_succ] at hK ⊢ | simp only [← hAF, Act.put] at hK ⊢
         clear hAF
         try simp only [Nat.zero_add, Nat.reduceAdd] at hK ⊢
        ·
         clear hg hd
         rw [if_pos (by rfl)]
         go_simp
         exact hK.out _ _ (Below.refl _ _) (rfl) (fun _ _ _ => ⟨trivial, trivial⟩)
        ·
         clear hg hd
         rw [if_pos (by rfl)]
         go_simp
         exact hK.out _ _ (Below.refl _ _) (rfl) (fun _ _ _ => ⟨trivial, trivial⟩)
        ·
         clear hg
         have dd1 := hd 1 (by kernel_rfl)
         clear hd
         try generalize xF 1 = yy1 at *
         obtain rfl := dd1
         rw [if_pos (by rfl)]
         go_simp
         exact hK.out _ _ (Below.refl _ _) (rfl) (fun _ _ _ => ⟨trivial, trivial⟩)
        ·
         have gg18 : (Box6 w5 b4 g) := hg 18 (by omega) (by decide)
         clear hg
         have dd2 := hd 2 (by kernel_rfl)
         clear hd
         try generalize xF 2 = yy2 at *
         obtain rfl := dd2
         have e0 := gg18.cell (j := i * 3) (by omega)
         have e1 := gg18.cell (j := i * 3 + 1) (by omega)
         have e2 := gg18.cell (j := i * 3 + 2) (by omega)
         rw [HGE.out] at e0
         rw [HGC.out.1] at e1
         rw [HGC.out.2] at e2
         rw [if_pos (by rfl)]
         go_simp
         exact hK.out _ _ (Below.refl _ _) (rfl) (fun _ _ _ => ⟨trivial, trivial⟩)
        ·
         clear hg hd
         rw [if_pos (by rfl)]
         go_simp
         exact hK.out _ _ (Below.refl _ _) (rfl) (fun _ _ _ => ⟨trivial, trivial⟩)
        ·
         clear hg hd
         rw [if_pos (by rfl)]
         go_simp
         exact hK.out _ _ (Below.refl _ _) (rfl) (fun _ _ _ => ⟨trivial, trivial⟩)
        ·
         clear hg hd
         rw [if_pos (by rfl)]
         go_simp
         exact hK.out _ _ (Below.refl _ _) (rfl) (fun _ _ _ => ⟨trivial, trivial⟩)
        ·
         clear hg
         have dd6 := hd 6 (by kernel_rfl)
         clear hd
         try generalize xF 6 = yy6 at *
         obtain rfl := dd6
         rw [if_pos (by rfl)]
         go_simp
         exact hK.out _ _ (Below.refl _ _) (rfl) (fun _ _ _ => ⟨trivial, trivial⟩)
        ·
         clear hg
         have dd7 := hd 7 (by kernel_rfl)
         clear hd
         try generalize xF 7 = yy7 at *
         obtain rfl := dd7
         have k9 := (HM3.out.far hR HNE.out).cell hi2
         rw [upd_same, show ((mi + 1 : Nat) : Int) = (mi : Int) + 1 by omega] at k9
         rw [if_pos (by rfl)]
         go_simp
         exact hK.out _ _ (Below.refl _ _) (rfl) (fun _ _ _ => ⟨trivial, trivial⟩)
        ·
         clear hg
         have dd5 := hd 5 (by kernel_rfl)
         have dd8 := hd 8 (by kernel_rfl)
         clear hd
         try generalize xF 5 = yy5 at *
         try generalize xF 8 = yy8 at *
         obtain rfl := dd5
         obtain rfl := dd8
         rw [if_pos (by rfl)]
         go_simp
         exact hK.out _ _ (Below.refl _ _) (rfl) (fun _ _ _ => ⟨trivial, trivial⟩)
        ·
         clear hg hd
         rw [if_pos (by rfl)]
         go_simp
         exact hK.out _ _ (Below.refl _ _) (rfl) (fun _ _ _ => ⟨trivial, trivial⟩)
        ·
         clear hg
         have dd4 := hd 4 (by kernel_rfl)
         have dd9 := hd 9 (by kernel_rfl)
         have dd10 := hd 10 (by kernel_rfl)
         clear hd
         try generalize xF 4 = yy4 at *
         try generalize xF 9 = yy9 at *
         try generalize xF 10 = yy10 at *
         obtain rfl := dd4
         obtain rfl := dd9
         obtain rfl := dd10
         rw [if_pos (by rfl)]
         go_simp
         exact hK.out _ _ (Below.refl _ _) (rfl) (fun _ _ _ => ⟨trivial, trivial⟩)
        ·
         clear hg
         have dd3 := hd 3 (by kernel_rfl)
         have dd11 := hd 11 (by kernel_rfl)
         clear hd
         try generalize xF 3 = yy3 at *
         try generalize xF 11 = yy11 at *
         obtain rfl := dd3
         obtain rfl := dd11
         rw [if_pos (by rfl)]
         go_simp
         (go_at_call 53; (with_reducible refine (HADD.out _ hR).mono ?_); rintro e wK ⟨vK, rfl, hpK, hbK⟩)
         try go_wp2_with fail
         exact hK.out _ _ (hbK) (hpK) (fun _ _ _ => ⟨trivial, trivial⟩)
        ·
         clear hg
         have dd12 : (TupV (staysOf (fun y => decide (y.s = nam J)) (s.l i) ++ [x]) (s.c i) (s.nd i) (xF 12) w5) := hd 12 (by kernel_rfl)
         clear hd
         try generalize xF 12 = yy12 at *
         have hp12 := dd12
         rw [if_pos (by rfl)]
         go_simp
         exact hK.out _ _ (Below.refl _ _) (hp12) (fun _ _ _ => ⟨trivial, trivial⟩)
        ·
         clear hg
         have dd13 : (TupV (staysOf (fun y => decide (y.s = nam J)) (s.l i) ++ [x]) (s.c i) (s.nd i) (xF 13) w5) := hd 13 (by kernel_rfl)
         clear hd
         try generalize xF 13 = yy13 at *
         have hp13 := dd13
         obtain ⟨s0, s1, rfl, hs0⟩ := hp13
         rw [if_pos (by rfl)]
         go_simp
         exact hK.out _ _ (Below.refl _ _) (hs0) (fun _ _ _ => ⟨trivial, trivial⟩)
        ·
         clear hg
         have dd13 : (TupV (staysOf (fun y => decide (y.s = nam J)) (s.l i) ++ [x]) (s.c i) (s.nd i) (xF 13) w5) := hd 13 (by kernel_rfl)
         clear hd
         try generalize xF 13 = yy13 at *
         have hp13 := dd13
         obtain ⟨s0, s1, rfl, hs0⟩ := hp13
         rw [if_pos (by rfl)]
         go_simp
         exact hK.out _ _ (Below.refl _ _) (trivial) (fun _ _ _ => ⟨trivial, trivial⟩)
        ·
         clear hg
         have dd13 : (TupV (staysOf (fun y => decide (y.s = nam J)) (s.l i) ++ [x]) (s.c i) (s.nd i) (xF 13) w5) := hd 13 (by kernel_rfl)
         clear hd
         try generalize xF 13 = yy13 at *
         have hp13 := dd13
         obtain ⟨s0, s1, rfl, hs0⟩ := hp13
         rw [if_pos (by rfl)]
         go_simp
         exact hK.out _ _ (Below.refl _ _) (rfl) (fun _ _ _ => ⟨trivial, trivial⟩)
        ·
         clear hg
         have dd0 := hd 0 (by kernel_rfl)
         clear hd
         try generalize xF 0 = yy0 at *
         obtain rfl := dd0
         rw [if_pos (by rfl)]
         go_simp
         exact hK.out _ _ (Below.refl _ _) (rfl) (fun _ _ _ => ⟨trivial, trivial⟩)
        ·
         have gg18 : (Box6 w5 b4 g) := hg 18 (by omega) (by decide)
         clear hg
         have dd14 : (AddV (staysOf (fun y => decide (y.s = nam J)) (s.l i) ++ [x]) (s.c i) (s.nd i) (xF 14) w5) := hd 14 (by kernel_rfl)
         have dd17 := hd 17 (by kernel_rfl)
         clear hd
         try generalize xF 14 = yy14 at *
         try generalize xF 17 = yy17 at *
         have hp14 := dd14
         obtain rfl := dd17
         obtain ⟨L1, cc1, ⟨a0, n0, c0, a1, n1, c1, a2, n2, c2, rfl, hE0, hC0⟩, hpm0, hup0, hIs0⟩ := hp14
         have k0 := gg18.cell (j := i * 3) (by omega)
         have k1 := gg18.cell (j := i * 3 + 1) (by omega)
         have k2 := gg18.cell (j := i * 3 + 2) (by omega)
         have q0 := gg18.fro (i * 3)
         have q1 := gg18.fro (i * 3 + 1)
         have q2 := gg18.fro (i * 3 + 2)
         rw [if_pos (by rfl)]
         go_simp
         exact hK.out undef _ (⟨kt3 gg18 _ _ _ _ _ _, grown3 _ _ _ _ _ _⟩) (⟨_, _, _, _, _, _, _, _, _, L1, cc1, ((gg18.set (by omega) _).set (by omega) _).set (by omega) _, hE0.kt (kt3 gg18 _ _ _ _ _ _) (by decide), hC0.kt (kt3 gg18 _ _ _ _ _ _) (by decide), hpm0, hup0, hIs0⟩) (fun _ _ _ => ⟨trivial, trivial⟩)
       intro xF w5 hR hF hP
       clear hP
       have dd0 := hF 0 (by omega) (by decide)
       have dd1 := hF 1 (by omega) (by decide)
       have dd2 := hF 2 (by omega) (by decide)
       have dd3 := hF 3 (by omega) (by decide)
       have dd4 := hF 4 (by omega) (by decide)
       have dd5 := hF 5 (by omega) (by decide)
       have dd6 := hF 6 (by omega) (by decide)
       have dd7 := hF 7 (by omega) (by decide)
       have dd8 := hF 8 (by omega) (by decide)
       have dd9 := hF 9 (by omega) (by decide)
       have dd10 := hF 10 (by omega) (by decide)
       have dd11 := hF 11 (by omega) (by decide)
       have dd12 : (TupV (staysOf (fun y => decide (y.s = nam J)) (s.l i) ++ [x]) (s.c i) (s.nd i) (xF 12) w5) := hF 12 (by omega) (by decide)
       have dd13 : (TupV (staysOf (fun y => decide (y.s = nam J)) (s.l i) ++ [x]) (s.c i) (s.nd i) (xF 13) w5) := hF 13 (by omega) (by decide)
       have dd14 : (AddV (staysOf (fun y => decide (y.s = nam J)) (s.l i) ++ [x]) (s.c i) (s.nd i) (xF 14) w5) := hF 14 (by omega) (by decide)
       have dd15 : (True) := hF 15 (by omega) (by decide)
       have dd16 := hF 16 (by omega) (by decide)
       have dd17 := hF 17 (by omega) (by decide)
       have dd18 : (StoV b4 i g (staysOf (fun y => decide (y.s = nam J)) (s.l i) ++ [x]) (s.c i) (s.nd i) w5) := hF 18 (by omega) (by decide)
       clear hF
       simp only [take_succ_cons, take_zero, drop_succ_cons, drop_zero, fillOf, Act.put, setIfInBounds_toArray, set_cons_zero, set_cons_succ, Nat.reduceAdd, Nat.zero_add]
       try generalize xF 0 = yy0 at *
       try generalize xF 1 = yy1 at *
       try generalize xF 2 = yy2 at *
       try generalize xF 3 = yy3 at *
       try generalize xF 4 = yy4 at *
       try generalize xF 5 = yy5 at *
       try generalize xF 6 = yy6 at *
       try generalize xF 7 = yy7 at *
       try generalize xF 8 = yy8 at *
       try generalize xF 9 = yy9 at *
       try generalize xF 10 = yy10 at *
       try generalize xF 11 = yy11 at *
       try generalize xF 12 = yy12 at *
       try generalize xF 13 = yy13 at *
       try generalize xF 14 = yy14 at *
       try generalize xF 15 = yy15 at *
       try generalize xF 16 = yy16 at *
       try generalize xF 17 = yy17 at *
       try generalize xF 18 = yy18 at *
       clear xF
       obtain rfl := dd0
       obtain rfl := dd1
       obtain rfl := dd2
       obtain rfl := dd3
       obtain rfl := dd4
       obtain rfl := dd5
       obtain rfl := dd6
       obtain rfl := dd7
       obtain rfl := dd8
       obtain rfl := dd9
       obtain rfl := dd10
       obtain rfl := dd11
       have hp12 := dd12
       have hp13 := dd13
       have hp14 := dd14
       have _ := dd15
       obtain rfl := dd16
       obtain rfl := dd17
       have hp18 := dd18
       have hRE := Lib.hid hR
       clear hR
       obtain ⟨a0, n0, c0, a1, n1, c1, a2, n2, c2, L', c', hbx, hE, hC, hpm, hup, m, hIs⟩ := hp18
       have hkt := box6_ktg HG3.out hRE.out
       have HG' := Lib.hid hbx
       have HP' := Lib.hid ((HP3.out.kt hkt (by decide) (by decide)).put hi2 (s.made i + 1) hE hC)
       have HV' := Lib.hid (tinv_add HV.out hi2 HFX.out HXD.out hpm hup (by rw [HXD.out]; exact hIs))
       have HQ' := Lib.hid (runR_succ HQ.out (stepR_mk hi2 (HWW.out.trans hie) HOA.out hJe HOB.out hte HOK.out (stepK_add HK1.out HK2.out HK3.out ⟨L', c', m, rfl, by rw [← HXE.out]; exact hpm, hup, hIs⟩)))
       have HM' : Hid (Box2 w5 b5 (s.put i L' c' (s.made i + 1)).made) := by
        show Box2 _ _ (upd s.made i (s.made i + 1))
        rw [← HMI.out]
        exact HM3.out.far hRE.out HNE.out
       have HB' : Hid (Below (w.heap.size + 1) W3 w5) := HBr3.out.grown hRE.out (by have := HBr3.out.size; have := HS3.out; omega) (fun j hj => by cases hj; rw [H4.out]; exact Nat.le_refl _)
       clear hbx hkt hE hC hpm hup hIs hRE
       go_wp2_with fail
       go_roundw
       case rel => exact ⟨k + 1, _, _, by go_num, by omega, HV'.out, HG'.out, HM'.out, HP'.out, HB'.out, HQ'.out⟩
       case measure => simp [intOf]; omega
   ·
    obtain rfl : k = n := by omega
    have hx0 := (HB.out.block w.heap.size (Nat.lt_succ_self _)).trans X0.out
    obtain ⟨e0, c0, hg0⟩ : ∃ a c, g 0 = .slice a (s.l 0).length c := own_slice (HP.out.ent 0 (by omega))
    obtain ⟨e3, c3, hg3⟩ : ∃ a c, g 3 = .slice a (s.l 1).length c := own_slice (HP.out.ent 1 (by omega))
    obtain ⟨a1, n1, c1, a2, n2, c2, hg1⟩ := (HP.out.ctx 0 (by omega)).form
    obtain ⟨a4, n4, c4, a5, n5, c5, hg4⟩ := (HP.out.ctx 1 (by omega)).form
    simp only [Value.agg.injEq, Array.mk.injEq, List.cons.injEq, and_true] at hg1 hg4
    obtain ⟨n0, hn0⟩ : ∃ n, n = (s.l 0).length := ⟨_, rfl⟩
    obtain ⟨n3, hn3⟩ : ∃ n, n = (s.l 1).length := ⟨_, rfl⟩
    rw [← hn0] at hg0
    rw [← hn3] at hg3
    have i0 := HG.out.cell (j := 0) (by omega)
    have i1 := HG.out.cell (j := 1) (by omega)
    have i2 := HG.out.cell (j := 2) (by omega)
    have i3 := HG.out.cell (j := 3) (by omega)
    have i4 := HG.out.cell (j := 4) (by omega)
    have i5 := HG.out.cell (j := 5) (by omega)
    rw [hg0] at i0
    rw [show g 1 = _ from hg1.1] at i1
    rw [show g 2 = _ from hg1.2] at i2
    rw [hg3] at i3
    rw [show g 4 = _ from hg4.1] at i4
    rw [show g 5 = _ from hg4.2] at i5
    have j0 := boxc hx0 0 _ rfl
    have j1 := boxc hx0 1 _ rfl
    have j2 := boxc hx0 2 _ rfl
    have j3 := boxc hx0 3 _ rfl
    have j4 := boxc hx0 4 _ rfl
    have j5 := boxc hx0 5 _ rfl
    have f0 := boxf hx0 0
    have f1 := boxf hx0 1
    have f2 := boxf hx0 2
    have f3 := boxf hx0 3
    have f4 := boxf hx0 4
    have f5 := boxf hx0 5
    obtain ⟨W4, hW4⟩ : ∃ W, W = (((((wr.setCell ⟨w.heap.size, 0, none⟩ (.slice e0 n0 c0)).setCell ⟨w.heap.size, 1, none⟩ (.slice a1 n1 c1)).setCell ⟨w.heap.size, 2, none⟩ (.slice a2 n2 c2)).setCell ⟨w.heap.size, 3, none⟩ (.slice e3 n3 c3)).setCell ⟨w.heap.size, 4, none⟩ (.slice a4 n4 c4)).setCell ⟨w.heap.size, 5, none⟩ (.slice a5 n5 c5) := ⟨_, rfl⟩
    have y0 := heap_setCell_same _ _ 0 _ _ (.slice e0 n0 c0) hx0
    have y1 := heap_setCell_same _ _ 1 _ _ (.slice a1 n1 c1) y0
    have y2 := heap_setCell_same _ _ 2 _ _ (.slice a2 n2 c2) y1
    have y3 := heap_setCell_same _ _ 3 _ _ (.slice e3 n3 c3) y2
    have y4 := heap_setCell_same _ _ 4 _ _ (.slice a4 n4 c4) y3
    have y5 := heap_setCell_same _ _ 5 _ _ (.slice a5 n5 c5) y4
    have hkt : Kt 41 wr W4 := by
     rw [hW4]
     exact ((((((Kt.set hx0 0 _)).trans (Kt.set y0 1 _)).trans (Kt.set y1 2 _)).trans (Kt.set y2 3 _)).trans (Kt.set y3 4 _)).trans (Kt.set y4 5 _)
    have HY5 : Hid (W4.heap[w.heap.size]? = some (.cells #[.slice e0 n0 c0, .slice a1 n1 c1, .slice a2 n2 c2, .slice e3 n3 c3, .slice a4 n4 c4, .slice a5 n5 c5] 41 (0, 0))) := by show _ = _; rw [hW4]; exact y5
    have hbw : Below w.heap.size w W4 := by
     rw [hW4]
     exact ((((((HB3.out.trans (HB.out.mono (Nat.le_succ _))).setCell (Nat.le_refl _) _).setCell (Nat.le_refl _) _).setCell (Nat.le_refl _) _).setCell (Nat.le_refl _) _).setCell (Nat.le_refl _) _).setCell (Nat.le_refl _) _
    have HR : Hid (TwoP l w (.returned (.tuple #[.agg #[.slice e0 n0 c0, .slice a1 n1 c1, .slice a2 n2 c2, .slice e3 n3 c3, .slice a4 n4 c4, .slice a5 n5 c5], .bool true])) W4) :=
     Or.inr ⟨by rw [← HN.out]; exact hn50, g, s, by rw [hg0, hg3, show g 1 = _ from hg1.1, show g 2 = _ from hg1.2, show g 4 = _ from hg4.1, show g 5 = _ from hg4.2], HP.out.kt hkt (by decide) (by decide), HV.out.mono hn50, hbw, by have := HQ.out; rw [HN.out] at this; exact this⟩
    have HW4 := Lib.hid hW4
    clear hx0 hg0 hg3 hg1 hg4 hn0 hn3 y0 y1 y2 y3 y4 y5 hkt hbw hW4
    go_wp2_with fail
    rw [← HW4.out]
    have z0 := boxc HY5.out 0 _ rfl
    have z1 := boxc HY5.out 1 _ rfl
    have z2 := boxc HY5.out 2 _ rfl
    have z3 := boxc HY5.out 3 _ rfl
    have z4 := boxc HY5.out 4 _ rfl
    have z5 := boxc HY5.out 5 _ rfl
    exact bodyPost_ret (v := .tuple #[.agg #[.slice e0 n0 c0, .slice a1 n1 c1, .slice a2 n2 c2, .slice e3 n3 c3, .slice a4 n4 c4, .slice a5 n5 c5], .bool true]) (by simp [results, Tryz.results23, go_sem, z0, z1, z2, z3, z4, z5]) rfl HR.out
end Go.Proofs.YtonknpdalemjkaaGreat


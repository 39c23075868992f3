/- codec: writeList at its four types; dot, link, entry, context, delta. -/
import Derived.Test.YtpgccfgldjeomaaCdWr
namespace Go.Proofs.Ytpgccfgldjeomaa
open Go.RowKit Go.ChangeShapes cl

def strR : Rel ByteArray := fun _ _ c x => c = [.string x] ∧ x.size ≤ maxLen
def dotR : Rel cd.D := fun _ _ c x => c = [.int .i64 x.1, .int .i64 x.2]
def lnkR : Rel cd.Lk := fun _ _ c x => c = [.int .i64 x.1, .int .i64 x.2.1, .int .i64 x.2.2]
def entR : Rel cd.Ent := fun w B c x => ∃ ao n cap, c = [.string x.s, .int .i64 x.d.1, .int .i64 x.d.2, .int .i64 x.t, .slice ao n cap] ∧ x.s.size ≤ maxLen ∧ RowsAt 3 lnkR w B (.slice ao n cap) x.l
theorem strR_steady : Steady strR := fun _ _ _ _ _ _ h _ _ => h
theorem dotR_steady : Steady dotR := fun _ _ _ _ _ _ h _ _ => h
theorem lnkR_steady : Steady lnkR := fun _ _ _ _ _ _ h _ _ => h
theorem entR_steady : Steady entR := fun _ _ _ _ _ _ ⟨ao, n, cap, h, hs, hr⟩ hb hB => ⟨ao, n, cap, h, hs, hr.below lnkR_steady hb hB⟩
instance : Inhabited cd.Ent := ⟨⟨.empty, (0, 0), 0, []⟩⟩

theorem Wrote.cases {B p : Nat} {pre : List Nat} {t : cd.W} {w w' : World} {e : Ending} (h : Wrote B p pre t w e w') :
    (∃ b, t = some b ∧ e = .returned (.tuple #[]) ∧ Wr B p (pre ++ b) w' ∧ Kp B p w w') ∨ (t = none ∧ e = refusal 1 ∧ Kp B p w w') := by
  obtain ⟨h1, h2⟩ := h
  cases t with
  | none => exact Or.inr ⟨rfl, h2, h1⟩
  | some b => exact Or.inl ⟨b, rfl, h2.1, h2.2, h1⟩
theorem Wrote.fail {B p : Nat} {pre : List Nat} {t : cd.W} {w w' : World} (h : Kp B p w w') (ht : t = none) : Wrote B p pre t w (refusal 1) w' := by
  subst ht; exact ⟨h, rfl⟩
theorem Wrote.done {B p : Nat} {pre b : List Nat} {t : cd.W} {w w' : World} (h : Kp B p w w') (hw : Wr B p (pre ++ b) w') (ht : t = some b) : Wrote B p pre t w (.returned (.tuple #[])) w' := by
  subst ht; exact ⟨h, rfl, hw⟩
theorem each_split' {α : Type} (f : α → cd.W) (d : α) {l : List α} {k : Nat} (hk : k < l.length) {a : List Nat} (ha : cd.each f (l.take k) = some a) : cd.each f (l.take (k + 1)) = cd.app (some a) (f (l.getD k d)) ∧ (f (l.getD k d) = none → cd.each f l = none) := by
  have e : l.getD k d = l[k] := by simp [List.getD, hk]
  have e1 : ∀ x, cd.each f [x] = f x := fun x => cd.app_nil _
  refine ⟨?_, fun hn => ?_⟩
  · rw [List.take_succ_eq_append_getElem hk, cd.each_app, ha, e1, e]
  · rw [← List.take_append_drop (k + 1) l, cd.each_app, List.take_succ_eq_append_getElem hk, cd.each_app, e1, ← e, hn, cd.app_none, cd.none_app]
/-- numbers of a slice that has just been laid -/
theorem numbers_lit (B p : Nat) (pre : List Nat) (l : List Int) (arr : Array Value) (n : Nat) (w : World) {g : Nat} (hg : g = w.heap.size) (hw : Wr B p pre w) (ha : arr.toList = l.map fun x => .int .i64 x) (hn : n = l.length) (hn1 : n ≤ 100) (hl : pre.length + n * 6 ≤ 1099511627776) :
    Calls Try.prog 31 #[.pointer (some ⟨p, 0, none⟩), .slice (some ⟨g, 0, none⟩) n n] (w.alloc (.cells arr 3)) (Wrote B p pre (cd.each cd.num l) w) := by
  subst hg
  have hb : Below w.heap.size w (w.alloc (.cells arr 3)) := (Below.refl _ _).alloc (Nat.le_refl _) _
  refine (numbers_any B p pre l w.heap.size n _ (hw.step hb) hn hn1 (hw.fresh arr (by decide)) (fun j hj => ?_) hl).mono fun e w' h => ⟨(Kp.of_below hb).trans h.1, h.2⟩
  rw [World.cell?_alloc_at _ _ _ _ rfl, ← Array.getElem?_toList, ha]
  simp [List.getD, show j < l.length by omega]
theorem Wrote.from {B p : Nat} {pre : List Nat} {t : cd.W} {w w1 w' : World} {e : Ending} (h : Wrote B p pre t w1 e w') (h1 : Kp B p w w1) : Wrote B p pre t w e w' := ⟨h1.trans h.1, h.2⟩
theorem below1 {w : World} {o : Obj} : Below w.heap.size w (w.alloc o) := (Below.refl _ _).alloc (Nat.le_refl _) _

set_option maxRecDepth 100000 in
theorem dot_any (B p : Nat) (pre : List Nat) (d : cd.D) (w : World) (hw : Wr B p pre w) (hl : pre.length + 12 ≤ 1099511627776) :
    Calls Try.prog 44 #[.pointer (some ⟨p, 0, none⟩), .agg #[.int .i64 d.1, .int .i64 d.2]] w (Wrote B p pre (cd.dot d) w) := by
  obtain ⟨x, y⟩ := d
  have HN := Lib.hid (numbers_lit B p pre [x, y] #[.int .i64 x, .int .i64 y] 2 (w.alloc (.cells #[.int .i64 x, .int .i64 y] 57)) (g := w.heap.size + 1) (by simp) (hw.step below1) rfl rfl (by decide) (by omega))
  go_enter Try.func44, Try.ntmps44
  go_wp2_with fail
  (with_reducible refine HN.out.mono ?_)
  rintro e w' h
  have h' : Wrote B p pre (cd.dot (x, y)) w e w' := h.from (Kp.of_below below1)
  rcases h'.cases with ⟨b, ht, rfl, h2, hk⟩ | ⟨ht, rfl, hk⟩
  · go_wp2
    go_end0
    exact Wrote.done hk h2 ht
  · exact ⟨rfl, Wrote.fail hk ht⟩

set_option maxRecDepth 100000 in
theorem link_any (B p : Nat) (pre : List Nat) (d : cd.Lk) (w : World) (hw : Wr B p pre w) (hl : pre.length + 18 ≤ 1099511627776) :
    Calls Try.prog 49 #[.pointer (some ⟨p, 0, none⟩), .agg #[.int .i64 d.1, .int .i64 d.2.1, .int .i64 d.2.2]] w (Wrote B p pre (cd.lnk d) w) := by
  obtain ⟨x, y, z⟩ := d
  have hw1 := hw.step (below1 (o := .cells #[.int .i64 x, .int .i64 y, .int .i64 z] 95))
  have hsafe := hw.fresh #[.int .i64 x, .int .i64 y, .int .i64 z] (t := 95) (by decide)
  have HN := Lib.hid (numbers_lit B p pre [x] #[.int .i64 x] 1 (w.alloc (.cells #[.int .i64 x, .int .i64 y, .int .i64 z] 95)) (g := w.heap.size + 1) (by simp) hw1 rfl rfl (by decide) (by omega))
  go_enter Try.func49, Try.ntmps49
  go_wp2_with fail
  (with_reducible refine HN.out.mono ?_)
  rintro e w1 h
  rcases h.cases with ⟨b, ht, rfl, h2, hk⟩ | ⟨ht, rfl, hk⟩
  · have c1 := hk.cell hsafe 1
    have c2 := hk.cell hsafe 2
    rw [World.cell?_alloc_at _ _ _ _ rfl] at c1 c2
    have HK := Lib.hid ((Kp.of_below (B := B) (p := p) below1).trans hk)
    have hbl := cd.nums_len ht
    have HD := Lib.hid (dot_any B p (pre ++ b) (y, z) w1 h2 (by rw [List.length_append]; simp at hbl; omega))
    clear hk hsafe h HN hw1 h2 hbl
    go_wp2_with fail
    (with_reducible refine HD.out.mono ?_)
    rintro e w2 h
    rcases h.cases with ⟨b2, ht2, rfl, h2, hk⟩ | ⟨ht2, rfl, hk⟩
    · go_wp2
      go_end0
      exact Wrote.done (HK.out.trans hk) (by rw [← List.append_assoc]; exact h2) (show cd.app (cd.each cd.num [x]) (cd.dot (y, z)) = _ by rw [ht, ht2]; rfl)
    · exact ⟨rfl, Wrote.fail (HK.out.trans hk) (show cd.app (cd.each cd.num [x]) (cd.dot (y, z)) = _ by rw [ht, ht2]; rfl)⟩
  · exact ⟨rfl, Wrote.fail ((Kp.of_below below1).trans hk) (show cd.app (cd.each cd.num [x]) (cd.dot (y, z)) = _ by rw [ht]; rfl)⟩

set_option maxHeartbeats 800000 in
set_option maxRecDepth 100000 in
theorem wl_string (B p : Nat) (pre : List Nat) (l : List ByteArray) (v : Value) (w : World) (hw : Wr B p pre w) (hv : RowsAt 1 strR w B v l) (hl : pre.length + 16024006 ≤ 1099511627776) :
    Calls Try.prog 35 #[.pointer (some ⟨p, 0, none⟩), v, .func (.func 34) #[] #[]] w (Wrote B p pre (cd.lst cd.txt l) w) := by
  obtain ⟨n, hn⟩ : ∃ n, n = l.length := ⟨_, rfl⟩
  obtain ⟨ao, cap, rfl, hnc, hnm⟩ := hv.form' hn
  unfold maxLen at hnm
  have HR1 : Hid (∀ W : World, Calls Try.prog 40 #[.int .i64 1] W fun e w' => e = refusal 1 ∧ w' = W) := refuse_1
  have HN := Lib.hid hn
  have HV := Lib.hid hv
  have HW := Lib.hid hw
  by_cases h4 : 4000 < n
  · have HE : Hid (cd.lst cd.txt l = none) := if_pos (by rw [← hn]; exact h4)
    have h4i : (4000 : Int) < (n : Int) := by omega
    clear hv hw hn
    go_enter Try.func35, Try.ntmps35
    go_wp2_with fail
    (with_reducible refine (HR1.out _).mono ?_)
    rintro e w1 ⟨rfl, rfl⟩
    exact ⟨rfl, Wrote.fail (Kp.refl _ _ _) HE.out⟩
  · have h4i : ¬ (4000 : Int) < (n : Int) := by omega
    have HE : Hid (cd.lst cd.txt l = cd.app (cd.each cd.num [(n : Int)]) (cd.each cd.txt l)) := by
      show _ = _
      rw [show cd.each cd.num [(n : Int)] = cd.num n from cd.app_nil _]
      unfold cd.lst
      rw [if_neg (by rw [← hn]; exact h4), ← hn]
    have HNL := Lib.hid (numbers_lit B p pre [(n : Int)] #[.int .i64 (n : Int)] 1 w rfl hw rfl rfl (by decide) (by omega))
    clear hv hw hn
    go_enter Try.func35, Try.ntmps35
    go_wp2_with fail
    (with_reducible refine HNL.out.mono ?_)
    rintro e w1 h
    rcases h.cases with ⟨b0, ht, rfl, h2, hk⟩ | ⟨ht, rfl, hk⟩
    · have hb0 := cd.nums_len ht
      simp only [List.length_cons, List.length_nil] at hb0
      have HT0 := Lib.hid ht
      have HW1 := Lib.hid h2
      have HK1 := Lib.hid hk
      clear h ht h2 hk HNL
      go_wp2
      go_loopw [19, 27] (fun i _ wr => ∃ (k : Nat) (a : List Nat), i = .int .i64 k ∧ k ≤ n ∧ a.length ≤ k * 4006 ∧ Hid (cd.each cd.txt (l.take k) = some a) ∧ Hid (Wr B p (pre ++ b0 ++ a) wr) ∧ Hid (Kp B p w wr)) (fun i _ _ => n - (intOf i).toNat)
      case atStart => exact ⟨0, [], rfl, by omega, by simp, rfl, by show Wr _ _ _ _; rw [List.append_nil]; exact HW1.out, HK1.out⟩
      case round =>
        obtain ⟨k, a, rfl, hk, hak, HA, HWr, HK⟩ := hrel
        by_cases hlt : k < n
        · have hkI : (k : Int) < (n : Int) := by omega
          have hS := each_split' cd.txt ByteArray.empty (l := l) (k := k) (by rw [← HN.out]; exact hlt) HA.out
          obtain ⟨b, off, c, rfl, hbB, hck, hR, hcell⟩ := (HV.out.below strR_steady (HK.out.below HW.out) (Nat.le_refl _)).get HN.out hlt ByteArray.empty
          obtain ⟨x, hx⟩ : ∃ x, x = l.getD k ByteArray.empty := ⟨_, rfl⟩
          rw [← hx] at hR hS
          obtain ⟨rfl, hsz⟩ := hR
          have c0 : wr.cell? ⟨b, off + k, none⟩ = some (.string x) := by simpa using hcell 0 _ rfl

          have HS := Lib.hid hS
          have hlen : (pre ++ b0 ++ a).length + 4006 ≤ 1099511627776 := by rw [List.length_append, List.length_append]; omega
          have HO := Lib.hid (text_any B p (pre ++ b0 ++ a) x wr HWr.out hsz hlen)
          clear hS hx hlen
          go_wp2_with fail
          (with_reducible refine HO.out.mono ?_)
          rintro e w2 h
          rcases h.cases with ⟨b1, ht, rfl, h2, hk2⟩ | ⟨ht, rfl, hk2⟩
          · have hb1 : b1.length ≤ 4006 := cd.txt_len ht
            have HA' : Hid (cd.each cd.txt (l.take (k + 1)) = some (a ++ b1)) := by show _ = _; rw [HS.out.1, ht, cd.app_some]
            have HW' : Hid (Wr B p (pre ++ b0 ++ (a ++ b1)) w2) := by show Wr _ _ _ _; rw [← List.append_assoc]; exact h2
            have HK' : Hid (Kp B p w w2) := HK.out.trans hk2
            clear h ht h2 hk2 HO hcell
            go_wp2
            go_roundw
            case rel => exact ⟨k + 1, a ++ b1, by go_num, by omega, by rw [List.length_append]; omega, HA', HW', HK'⟩
            case measure => simp [intOf]; omega
          · exact ⟨rfl, Wrote.fail (HK.out.trans hk2) (by rw [HE.out, HS.out.2 ht]; exact cd.app_none _)⟩
        · have HEa : Hid (cd.each cd.txt l = some a) := by
            show _ = _
            have := HA.out
            rwa [List.take_of_length_le (by rw [← HN.out]; omega)] at this
          go_wp2
          go_end0
          exact Wrote.done HK.out (by rw [← List.append_assoc]; exact HWr.out) (by rw [HE.out, HT0.out, HEa.out]; rfl)
    · exact ⟨rfl, Wrote.fail hk (by rw [HE.out, ht]; rfl)⟩

set_option maxHeartbeats 800000 in
set_option maxRecDepth 100000 in
theorem wl_dot (B p : Nat) (pre : List Nat) (l : List cd.D) (v : Value) (w : World) (hw : Wr B p pre w) (hv : RowsAt 2 dotR w B v l) (hl : pre.length + 48006 ≤ 1099511627776) :
    Calls Try.prog 43 #[.pointer (some ⟨p, 0, none⟩), v, .func (.func 44) #[] #[]] w (Wrote B p pre (cd.lst cd.dot l) w) := by
  obtain ⟨n, hn⟩ : ∃ n, n = l.length := ⟨_, rfl⟩
  obtain ⟨ao, cap, rfl, hnc, hnm⟩ := hv.form' hn
  unfold maxLen at hnm
  have HR1 : Hid (∀ W : World, Calls Try.prog 40 #[.int .i64 1] W fun e w' => e = refusal 1 ∧ w' = W) := refuse_1
  have HN := Lib.hid hn
  have HV := Lib.hid hv
  have HW := Lib.hid hw
  by_cases h4 : 4000 < n
  · have HE : Hid (cd.lst cd.dot l = none) := if_pos (by rw [← hn]; exact h4)
    have h4i : (4000 : Int) < (n : Int) := by omega
    clear hv hw hn
    go_enter Try.func43, Try.ntmps43
    go_wp2_with fail
    (with_reducible refine (HR1.out _).mono ?_)
    rintro e w1 ⟨rfl, rfl⟩
    exact ⟨rfl, Wrote.fail (Kp.refl _ _ _) HE.out⟩
  · have h4i : ¬ (4000 : Int) < (n : Int) := by omega
    have HE : Hid (cd.lst cd.dot l = cd.app (cd.each cd.num [(n : Int)]) (cd.each cd.dot l)) := by
      show _ = _
      rw [show cd.each cd.num [(n : Int)] = cd.num n from cd.app_nil _]
      unfold cd.lst
      rw [if_neg (by rw [← hn]; exact h4), ← hn]
    have HNL := Lib.hid (numbers_lit B p pre [(n : Int)] #[.int .i64 (n : Int)] 1 w rfl hw rfl rfl (by decide) (by omega))
    clear hv hw hn
    go_enter Try.func43, Try.ntmps43
    go_wp2_with fail
    (with_reducible refine HNL.out.mono ?_)
    rintro e w1 h
    rcases h.cases with ⟨b0, ht, rfl, h2, hk⟩ | ⟨ht, rfl, hk⟩
    · have hb0 := cd.nums_len ht
      simp only [List.length_cons, List.length_nil] at hb0
      have HT0 := Lib.hid ht
      have HW1 := Lib.hid h2
      have HK1 := Lib.hid hk
      clear h ht h2 hk HNL
      go_wp2
      go_loopw [19, 27] (fun i _ wr => ∃ (k : Nat) (a : List Nat), i = .int .i64 k ∧ k ≤ n ∧ a.length ≤ k * 12 ∧ Hid (cd.each cd.dot (l.take k) = some a) ∧ Hid (Wr B p (pre ++ b0 ++ a) wr) ∧ Hid (Kp B p w wr)) (fun i _ _ => n - (intOf i).toNat)
      case atStart => exact ⟨0, [], rfl, by omega, by simp, rfl, by show Wr _ _ _ _; rw [List.append_nil]; exact HW1.out, HK1.out⟩
      case round =>
        obtain ⟨k, a, rfl, hk, hak, HA, HWr, HK⟩ := hrel
        by_cases hlt : k < n
        · have hkI : (k : Int) < (n : Int) := by omega
          have hS := each_split' cd.dot ((0, 0) : cd.D) (l := l) (k := k) (by rw [← HN.out]; exact hlt) HA.out
          obtain ⟨b, off, c, rfl, hbB, hck, hR, hcell⟩ := (HV.out.below dotR_steady (HK.out.below HW.out) (Nat.le_refl _)).get HN.out hlt ((0, 0) : cd.D)
          obtain ⟨x, hx⟩ : ∃ x, x = l.getD k ((0, 0) : cd.D) := ⟨_, rfl⟩
          rw [← hx] at hR hS
          obtain rfl := hR
          obtain ⟨x0, x1⟩ := x
          have c0 : wr.cell? ⟨b, off + k * 2, none⟩ = some (.int .i64 x0) := by simpa using hcell 0 _ rfl
          have c1 : wr.cell? ⟨b, off + k * 2 + 1, none⟩ = some (.int .i64 x1) := by simpa using hcell 1 _ rfl

          have HS := Lib.hid hS
          have hlen : (pre ++ b0 ++ a).length + 12 ≤ 1099511627776 := by rw [List.length_append, List.length_append]; omega
          have HO : Hid (Calls Try.prog 44 #[.pointer (some ⟨p, 0, none⟩), .agg #[.int .i64 x0, .int .i64 x1]] (wr.alloc (.cells #[.int .i64 x0, .int .i64 x1] 57)) (Wrote B p (pre ++ b0 ++ a) (cd.dot (x0, x1)) wr)) := (dot_any B p (pre ++ b0 ++ a) (x0, x1) _ (HWr.out.step below1) hlen).mono fun _ _ h => h.from (Kp.of_below below1)
          clear hS hx hlen
          go_wp2_with fail
          (with_reducible refine HO.out.mono ?_)
          rintro e w2 h
          rcases h.cases with ⟨b1, ht, rfl, h2, hk2⟩ | ⟨ht, rfl, hk2⟩
          · have hb1 : b1.length ≤ 12 := cd.dot_len ht
            have HA' : Hid (cd.each cd.dot (l.take (k + 1)) = some (a ++ b1)) := by show _ = _; rw [HS.out.1, ht, cd.app_some]
            have HW' : Hid (Wr B p (pre ++ b0 ++ (a ++ b1)) w2) := by show Wr _ _ _ _; rw [← List.append_assoc]; exact h2
            have HK' : Hid (Kp B p w w2) := HK.out.trans hk2
            clear h ht h2 hk2 HO hcell
            go_wp2
            go_roundw
            case rel => exact ⟨k + 1, a ++ b1, by go_num, by omega, by rw [List.length_append]; omega, HA', HW', HK'⟩
            case measure => simp [intOf]; omega
          · exact ⟨rfl, Wrote.fail (HK.out.trans hk2) (by rw [HE.out, HS.out.2 ht]; exact cd.app_none _)⟩
        · have HEa : Hid (cd.each cd.dot l = some a) := by
            show _ = _
            have := HA.out
            rwa [List.take_of_length_le (by rw [← HN.out]; omega)] at this
          go_wp2
          go_end0
          exact Wrote.done HK.out (by rw [← List.append_assoc]; exact HWr.out) (by rw [HE.out, HT0.out, HEa.out]; rfl)
    · exact ⟨rfl, Wrote.fail hk (by rw [HE.out, ht]; rfl)⟩

set_option maxHeartbeats 800000 in
set_option maxRecDepth 100000 in
theorem wl_link (B p : Nat) (pre : List Nat) (l : List cd.Lk) (v : Value) (w : World) (hw : Wr B p pre w) (hv : RowsAt 3 lnkR w B v l) (hl : pre.length + 72006 ≤ 1099511627776) :
    Calls Try.prog 48 #[.pointer (some ⟨p, 0, none⟩), v, .func (.func 49) #[] #[]] w (Wrote B p pre (cd.lst cd.lnk l) w) := by
  obtain ⟨n, hn⟩ : ∃ n, n = l.length := ⟨_, rfl⟩
  obtain ⟨ao, cap, rfl, hnc, hnm⟩ := hv.form' hn
  unfold maxLen at hnm
  have HR1 : Hid (∀ W : World, Calls Try.prog 40 #[.int .i64 1] W fun e w' => e = refusal 1 ∧ w' = W) := refuse_1
  have HN := Lib.hid hn
  have HV := Lib.hid hv
  have HW := Lib.hid hw
  by_cases h4 : 4000 < n
  · have HE : Hid (cd.lst cd.lnk l = none) := if_pos (by rw [← hn]; exact h4)
    have h4i : (4000 : Int) < (n : Int) := by omega
    clear hv hw hn
    go_enter Try.func48, Try.ntmps48
    go_wp2_with fail
    (with_reducible refine (HR1.out _).mono ?_)
    rintro e w1 ⟨rfl, rfl⟩
    exact ⟨rfl, Wrote.fail (Kp.refl _ _ _) HE.out⟩
  · have h4i : ¬ (4000 : Int) < (n : Int) := by omega
    have HE : Hid (cd.lst cd.lnk l = cd.app (cd.each cd.num [(n : Int)]) (cd.each cd.lnk l)) := by
      show _ = _
      rw [show cd.each cd.num [(n : Int)] = cd.num n from cd.app_nil _]
      unfold cd.lst
      rw [if_neg (by rw [← hn]; exact h4), ← hn]
    have HNL := Lib.hid (numbers_lit B p pre [(n : Int)] #[.int .i64 (n : Int)] 1 w rfl hw rfl rfl (by decide) (by omega))
    clear hv hw hn
    go_enter Try.func48, Try.ntmps48
    go_wp2_with fail
    (with_reducible refine HNL.out.mono ?_)
    rintro e w1 h
    rcases h.cases with ⟨b0, ht, rfl, h2, hk⟩ | ⟨ht, rfl, hk⟩
    · have hb0 := cd.nums_len ht
      simp only [List.length_cons, List.length_nil] at hb0
      have HT0 := Lib.hid ht
      have HW1 := Lib.hid h2
      have HK1 := Lib.hid hk
      clear h ht h2 hk HNL
      go_wp2
      go_loopw [19, 27] (fun i _ wr => ∃ (k : Nat) (a : List Nat), i = .int .i64 k ∧ k ≤ n ∧ a.length ≤ k * 18 ∧ Hid (cd.each cd.lnk (l.take k) = some a) ∧ Hid (Wr B p (pre ++ b0 ++ a) wr) ∧ Hid (Kp B p w wr)) (fun i _ _ => n - (intOf i).toNat)
      case atStart => exact ⟨0, [], rfl, by omega, by simp, rfl, by show Wr _ _ _ _; rw [List.append_nil]; exact HW1.out, HK1.out⟩
      case round =>
        obtain ⟨k, a, rfl, hk, hak, HA, HWr, HK⟩ := hrel
        by_cases hlt : k < n
        · have hkI : (k : Int) < (n : Int) := by omega
          have hS := each_split' cd.lnk ((0, 0, 0) : cd.Lk) (l := l) (k := k) (by rw [← HN.out]; exact hlt) HA.out
          obtain ⟨b, off, c, rfl, hbB, hck, hR, hcell⟩ := (HV.out.below lnkR_steady (HK.out.below HW.out) (Nat.le_refl _)).get HN.out hlt ((0, 0, 0) : cd.Lk)
          obtain ⟨x, hx⟩ : ∃ x, x = l.getD k ((0, 0, 0) : cd.Lk) := ⟨_, rfl⟩
          rw [← hx] at hR hS
          obtain rfl := hR
          obtain ⟨x0, x1, x2⟩ := x
          have c0 : wr.cell? ⟨b, off + k * 3, none⟩ = some (.int .i64 x0) := by simpa using hcell 0 _ rfl
          have c1 : wr.cell? ⟨b, off + k * 3 + 1, none⟩ = some (.int .i64 x1) := by simpa using hcell 1 _ rfl
          have c2 : wr.cell? ⟨b, off + k * 3 + 2, none⟩ = some (.int .i64 x2) := by simpa using hcell 2 _ rfl

          have HS := Lib.hid hS
          have hlen : (pre ++ b0 ++ a).length + 18 ≤ 1099511627776 := by rw [List.length_append, List.length_append]; omega
          have HO : Hid (Calls Try.prog 49 #[.pointer (some ⟨p, 0, none⟩), .agg #[.int .i64 x0, .int .i64 x1, .int .i64 x2]] (wr.alloc (.cells #[.int .i64 x0, .int .i64 x1, .int .i64 x2] 95)) (Wrote B p (pre ++ b0 ++ a) (cd.lnk (x0, x1, x2)) wr)) := (link_any B p (pre ++ b0 ++ a) (x0, x1, x2) _ (HWr.out.step below1) hlen).mono fun _ _ h => h.from (Kp.of_below below1)
          clear hS hx hlen
          go_wp2_with fail
          (with_reducible refine HO.out.mono ?_)
          rintro e w2 h
          rcases h.cases with ⟨b1, ht, rfl, h2, hk2⟩ | ⟨ht, rfl, hk2⟩
          · have hb1 : b1.length ≤ 18 := cd.lnk_len ht
            have HA' : Hid (cd.each cd.lnk (l.take (k + 1)) = some (a ++ b1)) := by show _ = _; rw [HS.out.1, ht, cd.app_some]
            have HW' : Hid (Wr B p (pre ++ b0 ++ (a ++ b1)) w2) := by show Wr _ _ _ _; rw [← List.append_assoc]; exact h2
            have HK' : Hid (Kp B p w w2) := HK.out.trans hk2
            clear h ht h2 hk2 HO hcell
            go_wp2
            go_roundw
            case rel => exact ⟨k + 1, a ++ b1, by go_num, by omega, by rw [List.length_append]; omega, HA', HW', HK'⟩
            case measure => simp [intOf]; omega
          · exact ⟨rfl, Wrote.fail (HK.out.trans hk2) (by rw [HE.out, HS.out.2 ht]; exact cd.app_none _)⟩
        · have HEa : Hid (cd.each cd.lnk l = some a) := by
            show _ = _
            have := HA.out
            rwa [List.take_of_length_le (by rw [← HN.out]; omega)] at this
          go_wp2
          go_end0
          exact Wrote.done HK.out (by rw [← List.append_assoc]; exact HWr.out) (by rw [HE.out, HT0.out, HEa.out]; rfl)
    · exact ⟨rfl, Wrote.fail hk (by rw [HE.out, ht]; rfl)⟩
end Go.Proofs.Ytpgccfgldjeomaa

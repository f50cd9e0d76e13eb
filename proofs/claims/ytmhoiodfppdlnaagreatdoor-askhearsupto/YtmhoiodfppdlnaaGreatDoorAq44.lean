import Derived.Test.YtmhoiodfppdlnaaGreatDoorAq41
import Derived.Test.YtmhoiodfppdlnaaGreatDoorAq42
import Derived.Test.YtmhoiodfppdlnaaGreatDoorAq43
namespace Go.Proofs.YtmhoiodfppdlnaaGreatDoor
open Go.RowKit
variable {ad:Nat->Addr} {X:World->Prop} {Ak:World->Nat->Nat->(Nat->Prop)->MAsk->Prop}
theorem askHears_any (hO:AskOk ad X Ak)(hF:∀ {w B h S a},Ak w B h S a->AFine a)(b:Bid)(p:Option Addr)(cap:Nat)(l:List Msg)(lp:Option Addr)(lcap:Nat)(w:World)(hi:LawIn ad X b p cap l lp w):Calls Tryz.prog 3 #[.agg #[.bool b.put,.int .i64 b.who,.int .i64 b.op,.int .i64 b.config,.int .i64 b.c.n,.int .i64 b.c.k,.slice p b.c.L.length cap,.string b.key,.string b.text],.slice lp l.length lcap] w fun e w'=>e=.returned (.bool true)/\Below w.heap.size w w':=by
 cases h1:longC b.c with
 | true=>exact askHears_long hO b p cap l lp lcap w hi h1
 | false =>
  by_cases h2:100 < b.key.size
  ·exact askHears_key hO b p cap l lp lcap w hi h1 h2
  ·by_cases h3:b.text.size<=100∨1000 < b.text.size/\b.text.size<=2000
   ·cases h4:fitsM l with
    | false=>exact askHears_much hO b p cap l lp lcap w hi h1 h2 h3 h4
    | true =>
     by_cases h6:0 < (bidF b).1
     ·rcases Bool.eq_false_or_eq_true b.put with h5 | h5
      ·exact askHears_put_bad hO b p cap l lp lcap w hi h1 h2 h3 h4 h5 h6
      ·exact askHears_get_bad hO b p cap l lp lcap w hi h1 h2 h3 h4 h5 h6
     ·rcases Bool.eq_false_or_eq_true b.put with h5 | h5
      ·exact askHears_put_fine hO b p cap l lp lcap w hi hF h1 h2 h3 h4 h5 h6
      ·exact askHears_get_fine hO b p cap l lp lcap w hi hF h1 h2 h3 h4 h5 h6
   ·exact askHears_text hO b p cap l lp lcap w hi h1 h2 (by omega) (by omega)
end Go.Proofs.YtmhoiodfppdlnaaGreatDoor
